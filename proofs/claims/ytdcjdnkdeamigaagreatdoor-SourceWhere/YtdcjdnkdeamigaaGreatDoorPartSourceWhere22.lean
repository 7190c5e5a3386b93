/- Texts of one chain. -/
import Derived.Test.YtdcjdnkdeamigaaGreatDoorPartSourceWhere16
import Derived.Test.YtdcjdnkdeamigaaGreatDoorPartSourceWhere1
import Derived.Laws.IdiomStrings
namespace Go.Proofs.YtdcjdnkdeamigaaGreatDoor
open Go.ChangeShapes Go.WideShapes Go.ChangeAt Go.RowKit
theorem VG:∀(m n:Nat),n<10 ^ m->(kB n).length<=m
 |0,n,h=>by
  have:n=0:=by simp at h;exact h
  subst this;rw[oB];simp
 |m+1,n,h=>by
  by_cases h0:n=0
  ·subst h0;rw[oB];simp
  rw[lT h0,List.length_append];have:=VG m (n / 10) (by rw[Nat.pow_succ]at h;omega);simp;omega
def lK (t:yJ):Bool:=if t.sort=1 then decide (t.num=0)&&yO t.text else if t.sort=2 then decide (t.text=[]) else if t.sort=3 then decide (t.num=0)&&dI t.text else false
end Go.Proofs.YtdcjdnkdeamigaaGreatDoor
namespace Go.Proofs.YtdcjdnkdeamigaaGreatDoor
open Go.RowKit
def free (l:List UInt8):Prop:=wR (xF l 0)=false
def oM (t:yJ):yJ:= { t with place:=0 }
end Go.Proofs.YtdcjdnkdeamigaaGreatDoor
namespace Go.Proofs.YtdcjdnkdeamigaaGreatDoor
open Go.ChangeShapes Go.WideShapes Go.ChangeAt Go.RowKit
theorem KA {t:yJ} (h:(t.sort=1/\t.num=0/\t.text.length<=16/\rP (xF t.text 0)=true/\yW wR t.text=t.text.length)\/(t.sort=2/\t.text=[]/\wC t.num=true)\/(t.sort=3/\t.num=0/\dI t.text=true)):lK t=true/\wC t.num=true/\t.sort≠0:=by
 unfold lK
 rcases h with ⟨a,b,c,d,e⟩|⟨a,b,c⟩|⟨a,b,c⟩
 ·refine ⟨?_,by rw[b];rfl,by omega⟩
  rw[if_pos a,b];unfold yO;rw[decide_eq_true c,d,decide_eq_true e];rfl
 ·refine ⟨?_,c,by omega⟩
  rw[if_neg (by omega),if_pos a,b];rfl
 refine ⟨?_,by rw[b];rfl,by omega⟩
 rw[if_neg (by omega),if_neg (by omega),if_pos a,b,c];rfl
structure Step (l : List UInt8) (p : Nat) (t : yJ) (rest : List yJ) (q : Nat) (s : List UInt8) : Prop where
 place:t.place=(q:Int)
 le:p<=q
 spelt:spelt t=s
 stands:(l.drop q).take s.length=s
 room:q+s.length<=l.length
 fits:wC t.num=true
 ways:(t.sort=0/\rest=[]/\q+s.length=l.length)\/(t.sort≠0/\lK t=true/\rest≠[]/\vH (q+s.length) (l.drop (q+s.length))=⟨rest,0,0⟩)
theorem iF {l:List UInt8} {p:Nat} {ts:List yJ} (hp:p<=l.length) (h:vH p (l.drop p)=⟨ts,0,0⟩):∃t rest q s,ts=t::rest/\Step l p t rest q s:=by
 have hk:=rN false (l.drop p);rw[List.length_drop]at hk
 by_cases h1:(l.drop p).drop (zK false (l.drop p))=[]
 ·rw [sM h1]at h
  have hl:=congrArg List.length h1;rw[List.length_drop,List.length_drop,List.length_nil]at hl;simp only[gM.mk.injEq,and_true]at h;exact ⟨⟨0,[],0,((p+zK false (l.drop p):Nat):Int)⟩,[],p+zK false (l.drop p),[],h.symm,⟨rfl,by omega,rfl,rfl,by simp;omega,rfl,Or.inl ⟨rfl,rfl,by simp;omega⟩⟩⟩
 by_cases h2:(yL ((l.drop p).drop (zK false (l.drop p)))).err=0
 ·rw [sK h1 h2]at h
  have h3:=tT h2;obtain ⟨hs1,hs2⟩:=OP h2;obtain ⟨r1,r2,r3⟩:=KA hs2;rw[List.drop_drop]at h h2 h3 hs1 r1 r2 r3;rw[List.drop_drop,<-Nat.add_assoc]at h;rw[List.length_drop]at h3
  have hg:(vH (p+zK false (l.drop p)+(yL (l.drop (p+zK false (l.drop p)))).n) (l.drop (p+zK false (l.drop p)+(yL (l.drop (p+zK false (l.drop p)))).n))).err=0:=by
   unfold gM.cons at h
   by_cases hg:(vH (p+zK false (l.drop p)+(yL (l.drop (p+zK false (l.drop p)))).n) (l.drop (p+zK false (l.drop p)+(yL (l.drop (p+zK false (l.drop p)))).n))).err=0
   ·exact hg
   rw[if_neg hg]at h;rw[h]at hg;exact absurd rfl hg
  have hz:=kR hg;have hsm:=WN _ (p+zK false (l.drop p)+(yL (l.drop (p+zK false (l.drop p)))).n) _ (Nat.le_refl _) hg;unfold gM.cons at h;rw[if_pos hg]at h;simp only[gM.mk.injEq,and_true]at h
  have hlen:((l.drop (p+zK false (l.drop p))).take (yL (l.drop (p+zK false (l.drop p)))).n).length=(yL (l.drop (p+zK false (l.drop p)))).n:=by
   rw[List.length_take,List.length_drop];omega
  refine ⟨{ (yL (l.drop (p+zK false (l.drop p)))).tok with place:=((p+zK false (l.drop p):Nat):Int) },_,p+zK false (l.drop p),(l.drop (p+zK false (l.drop p))).take (yL (l.drop (p+zK false (l.drop p)))).n,h.symm,⟨rfl,by omega,hs1,by rw[hlen],by rw[hlen];omega,r2,Or.inr ⟨r3,r1,hsm.2,?_⟩⟩⟩
  rw[hlen];generalize vH (p+zK false (l.drop p)+(yL (l.drop (p+zK false (l.drop p)))).n) (l.drop (p+zK false (l.drop p)+(yL (l.drop (p+zK false (l.drop p)))).n))=g at hg hz ⊢;obtain ⟨a,b,c⟩:=g;simp only at hg hz;subst hg;subst hz;rfl
 rw[sL h1 h2]at h;exact absurd (congrArg gM.err h) h2
end Go.Proofs.YtdcjdnkdeamigaaGreatDoor
