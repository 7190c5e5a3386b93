/- Texts of one chain. -/
import Derived.Test.YtpohmekkdjdhmaaGreatPartTopPeriods50
namespace Go.Proofs.YtpohmekkdjdhmaaGreat
open Go.ChangeShapes Go.WideShapes Go.ChangeAt Go.RowKit
theorem dG (g:GG) (a1 a2 a3 a4:Option Addr) (c1 c2 c3 c4:Nat) (ap:Option Addr) (lp cp:Nat) (P:List Int) (aq:Option Addr) (lq cq:Nat) (Q:List Int) (w:World) (h:UA w a1 a2 a3 a4 c3 c4 g) (hp:ZL w ap lp cp P) (hq:ZL w aq lq cq Q):Calls Tryz.prog 3 #[.agg #[.string (yG g.name),.slice a1 g.A.length c1,.slice a2 g.E.length c2,.slice a3 g.ins.length c3,.slice a4 g.outs.length c4],.slice ap lp cp,.slice aq lq cq] w fun e w'=>e=.returned (.bool true)/\Below w.heap.size w w':=by
 by_cases hc:(yH g).code=0
 ·obtain ⟨n,hn⟩:∃n,kG g=n:=⟨_,rfl⟩
  have hk:zN n=0:=by rw[<- hn];exact zYZ ((fF g).1 hc)
  have hN:n.nodes=(g.A.length:Int):=by rw[<- hn];rfl
  cases hb:kF n with
  |true=>exact zML g a1 a2 a3 a4 c1 c2 c3 c4 ap lp cp aq lq cq w h hc n _ hn hN hk hb
  |false=>
   cases hf:jB n.arcs (kM n) with
   |some i=>exact zMK g a1 a2 a3 a4 c1 c2 c3 c4 ap lp cp aq lq cq w h hc n _ hn hN hk hb i hf
   |none=>exact zPJ g a1 a2 a3 a4 c1 c2 c3 c4 ap lp cp P aq lq cq Q w h hp hq hc n _ hn hN hk _ rfl hb hf
 exact zMM g a1 a2 a3 a4 c1 c2 c3 c4 ap lp cp aq lq cq w h hc
end Go.Proofs.YtpohmekkdjdhmaaGreat
