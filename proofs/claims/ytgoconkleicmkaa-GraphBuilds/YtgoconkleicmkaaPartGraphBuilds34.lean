/- Texts of one chain. -/
import Derived.Test.YtgoconkleicmkaaPartQ
import Derived.Test.YtgoconkleicmkaaPartGraphBuilds29
import Derived.Test.YtgoconkleicmkaaPartGraphBuilds4
import Derived.Deep.Cut
set_option maxRecDepth 100000
set_option maxHeartbeats 4000000
namespace Go.Proofs.Ytgoconkleicmkaa
open Go.ChangeShapes Go.WideShapes Go.ChangeAt Go.RowKit
theorem tE (l : List UInt8) : (zW l).toList = l := ByteArray.toList_mk l
theorem ints5 (ns : List Int) (a1 a2 : Option Addr) (k1 k2 : Nat) (w : World) (hm : ns.length <= 17592186044416) (h1 : vR w (.slice a1 ns.length k1) ns) (h2 : vR w (.slice a2 ns.length k2) ns) :
 Calls Try.prog 21 #[.slice a1 ns.length k1, .slice a2 ns.length k2] w fun e w' => e = .returned (.bool true) /\ Below w.heap.size w w' := by
 obtain ⟨a, c, e1, h1⟩ := h1
 obtain ⟨b, d, e2, h2⟩ := h2
 cases e1
 cases e2
 obtain ⟨len, hl⟩ : ∃ n, ns.length = n := ⟨_, rfl⟩
 rw [hl] at hm ⊢
 have hee : ((len : Int) != (len : Int)) = false := by simp
 go_enter Try.func21, Try.ntmps21
 go_wp2
 go_loopw [5] (fun i wr => ∃ k n : Nat, k <= len /\ wr = w.drewN n /\ i = .int .i64 k) (fun i _ => len - (intOf i).toNat)
 case atStart => exact ⟨0, 0, Nat.zero_le _, rfl, rfl⟩
 case round =>
  obtain ⟨k, n, hk, rfl, rfl⟩ := hrel
  by_cases hlt : k < len
  ·rcases h1 with h0 | ⟨g1, o1, rfl, q1⟩
   ·rw [h0] at hl; simp at hl; omega
   rcases h2 with h0 | ⟨g2, o2, rfl, q2⟩
   ·rw [h0] at hl; simp at hl; omega
   have c1 := q1 k (by omega)
   have c2 := q2 k (by omega)
   have hki : (k : Int) < (len : Int) := by omega
   have hnn : (ns.getD k 0 != ns.getD k 0) = false := by simp
   generalize ns.getD k 0 = x at *
   go_wp2
   go_quiet (fail)
   go_wp2
   go_roundw
   case rel => exact ⟨k + 1, n + nq, by omega, rfl, by go_num⟩
   case measure => simp [intOf]; omega
  go_wp2
  go_ret
  exact ⟨rfl, eF (Below.refl _ _) n⟩
theorem bM (x : yO) (a1 a2 : Option Addr) (k1 k2 : Nat) (w : World) (hm : x.nums.length <= 17592186044416) (h1 : vR w (.slice a1 x.nums.length k1) x.nums) (h2 : vR w (.slice a2 x.nums.length k2) x.nums) :
 Calls Try.prog 55 #[.agg #[.int .u8 x.kind, .string (zW x.name), .string (zW x.tag), .slice a1 x.nums.length k1, .string (zW x.frm.name), .int .i64 x.frm.port, .int .i64 x.frm.place, .string (zW x.tgt.name), .int .i64 x.tgt.port, .int .i64 x.tgt.place, .int .i64 x.place], .agg #[.int .u8 x.kind, .string (zW x.name), .string (zW x.tag), .slice a2 x.nums.length k2, .string (zW x.frm.name), .int .i64 x.frm.port, .int .i64 x.frm.place, .string (zW x.tgt.name), .int .i64 x.tgt.port, .int .i64 x.tgt.place, .int .i64 x.place]] w fun e w' => e = .returned (.bool true) /\ Below w.heap.size w w' := by
 have HI : Hid (∀ o1 o2, Calls Try.prog 21 #[.slice a1 x.nums.length k1, .slice a2 x.nums.length k2] ((w.alloc o1).alloc o2) fun e w' => e = .returned (.bool true) /\ Below ((w.alloc o1).alloc o2).heap.size ((w.alloc o1).alloc o2) w') := fun o1 o2 => ints5 x.nums a1 a2 k1 k2 _ hm (h1.below (((Below.refl _ _).alloc (Nat.le_refl _) o1).alloc (by simp) o2)) (h2.below (((Below.refl _ _).alloc (Nat.le_refl _) o1).alloc (by simp) o2))
 have B : Hid (∀ o1 o2, Below w.heap.size w ((w.alloc o1).alloc o2)) := fun o1 o2 => ((Below.refl _ _).alloc (Nat.le_refl _) o1).alloc (by simp) o2
 obtain ⟨ki, nm, tg, ns, ⟨fn, fp, fa⟩, ⟨tn, tp, ta⟩, pl⟩ := x
 simp only at hm h1 h2 HI ⊢
 have q1 := tE nm
 have q2 := tE tg
 have q3 := tE fn
 have q4 := tE tn
 have r1 : (nm == nm) = true := by simp
 have r2 : (tg == tg) = true := by simp
 have r3 : (fn == fn) = true := by simp
 have r4 : (tn == tn) = true := by simp
 have r5 : (ki == ki) = true := by simp
 have r6 : (fp == fp) = true := by simp
 have r7 : (tp == tp) = true := by simp
 clear hm h1 h2
 generalize ns.length = len at *
 go_enter Try.func55, Try.ntmps55
 go_wp2_with (go_at_call 21; (with_reducible refine (HI.out _ _).mono ?_); rintro e w1 ⟨rfl, b1⟩)
 go_ret
 exact ⟨by first | rfl | simp, (B.out _ _).trans (b1.mono (B.out _ _).size)⟩
theorem fZ {L M : List (yO × Value)} (h : M.map Prod.fst = L.map Prod.fst) (k : Nat) : (yV M k).1 = (yV L k).1 := by
 have h2 := congrArg (fun l : List yO => l[k]?) h
 simp only [List.getElem?_map] at h2
 unfold yV
 rw [List.getD_eq_getElem?_getD, List.getD_eq_getElem?_getD]
 cases hm : M[k]? with
 | none => rw [hm] at h2; cases hl : L[k]? with
  | none => rfl
  | some q => rw [hl] at h2; cases h2
 | some p => rw [hm] at h2; cases hl : L[k]? with
  | none => rw [hl] at h2; cases h2
  | some q => rw [hl] at h2; exact Option.some.inj h2
theorem bL (nm : List UInt8) (b1 b2 : Option Addr) (n c1 c2 : Nat) (M L : List (yO × Value)) (w : World) (hM : M.length = n) (hL : L.length = n) (hs : M.map Prod.fst = L.map Prod.fst) (h1 : nS w b1 M) (h2 : nS w b2 L) (hl : n <= 2000000) (hf : ∀ p ∈ L, p.1.nums.length <= 17592186044416) :
 Calls Try.prog 23 #[.agg #[.string (zW nm), .slice b1 n c1], .agg #[.string (zW nm), .slice b2 n c2]] w fun e w' => e = .returned (.bool true) /\ Below w.heap.size w w' := by
 have hb0 := ((Below.refl w.heap.size w).alloc (Nat.le_refl _) (.cells #[.string (zW nm), .slice b1 n c1] 24)).alloc (by simp) (.cells #[.string (zW nm), .slice b2 n c2] 24)
 have hk1 := (zU 24 w #[.string (zW nm), .slice b1 n c1]).below ((Below.refl _ _).alloc (Nat.le_refl _) (.cells #[.string (zW nm), .slice b2 n c2] 24))
 have hk2 : zN 24 (w.heap.size + 1) ((w.alloc (.cells #[.string (zW nm), .slice b1 n c1] 24)).alloc (.cells #[.string (zW nm), .slice b2 n c2] 24)) #[.string (zW nm), .slice b2 n c2] := by
  have h3 := zU 24 (w.alloc (.cells #[.string (zW nm), .slice b1 n c1] 24)) #[.string (zW nm), .slice b2 n c2]
  have h4 : (w.alloc (.cells #[.string (zW nm), .slice b1 n c1] 24)).heap.size = w.heap.size + 1 := by simp
  rw [h4] at h3
  exact h3
 have HR1 := zZ (h1.below hb0)
 have HR2 := zZ (h2.below hb0)
 have HSN := zZ (fZ hs)
 have e1 := tE nm
 have e2 : (nm != nm) = false := by simp
 have e3 : ((n : Int) != (n : Int)) = false := by simp
 have hnI : (n : Int) <= 2000000 := by omega
 have HF := zZ hf
 have HB0 := zZ hb0
 clear h1 h2 hs hf
 go_enter Try.func23, Try.ntmps23
 go_upto_region 1 with fail
 generalize (w.alloc (.cells #[.string (zW nm), .slice b1 n c1] 24)).alloc (.cells #[.string (zW nm), .slice b2 n c2] 24) = W0 at *
 have y10 : W0.cell? ⟨w.heap.size, 0, none⟩ = some (.string (zW nm)) := hk1.cell (k := 0) rfl
 have y20 : W0.cell? ⟨w.heap.size + 1, 0, none⟩ = some (.string (zW nm)) := hk2.cell (k := 0) rfl
 have y1 : W0.cell? ⟨w.heap.size, 1, none⟩ = some (.slice b1 n c1) := hk1.cell (k := 1) rfl
 have y2 : W0.cell? ⟨w.heap.size + 1, 1, none⟩ = some (.slice b2 n c2) := hk2.cell (k := 1) rfl
 have Y1 := zZ y1
 have Y2 := zZ y2
 clear hk1 hk2 hb0
 go_wp2
 clear e1 e2 e3 y10 y20 y1 y2
 go_loopg [5] n (fun gk v wr => ∃ (k : Nat), k <= n /\ gk = n - k /\ v = .int .i64 (k : Int) /\ Below W0.heap.size W0 wr)
 case atStart => exact ⟨0, Nat.zero_le _, rfl, rfl, Below.refl _ _⟩
 case round =>
  obtain ⟨k, hk, rfl, rfl, hbe⟩ := hrel
  have HBE := zZ hbe
  have y1 := zX hbe Y1.out
  have y2 := zX hbe Y2.out
  clear hbe
  by_cases hlt : k < n
  ·have hki : (k : Int) < (n : Int) := by omega
   have i1 := HR1.out.below HBE.out
   have i2 := HR2.out.below HBE.out
   rcases i1.lie with e | ⟨g1, o1, rfl, q1⟩
   ·rw [e] at hM; simp at hM; omega
   rcases i2.lie with e | ⟨g2, o2, rfl, q2⟩
   ·rw [e] at hL; simp at hL; omega
   obtain ⟨c0, c1q, c2q, c3, c4, c5, c6, c7, c8, c9, c10⟩ := q1 k (by omega)
   obtain ⟨d0, d1, d2, d3, d4, d5, d6, d7, d8, d9, d10⟩ := q2 k (by omega)
   have HM1 := i1.nums _ (yJ (L := M) (k := k) (by omega))
   have HM2 := i2.nums _ (yJ (L := L) (k := k) (by omega))
   obtain ⟨a1, k1n, ev1, -⟩ := id HM1
   obtain ⟨a2, k2n, ev2, -⟩ := id HM2
   rw [ev1] at c3 HM1
   rw [ev2] at d3 HM2
   have hfl := HF.out _ (yJ (L := L) (k := k) (by omega))
   rw [HSN.out k] at c0 c1q c2q c3 c4 c5 c6 c7 c8 c9 c10 HM1
   clear ev1 ev2 q1 q2 i1 i2
   generalize (yV L k).1 = x at *
   have HSI : Hid (∀ W, Below wr.heap.size wr W -> Calls Try.prog 55 #[.agg #[.int .u8 x.kind, .string (zW x.name), .string (zW x.tag), .slice a1 x.nums.length k1n, .string (zW x.frm.name), .int .i64 x.frm.port, .int .i64 x.frm.place, .string (zW x.tgt.name), .int .i64 x.tgt.port, .int .i64 x.tgt.place, .int .i64 x.place], .agg #[.int .u8 x.kind, .string (zW x.name), .string (zW x.tag), .slice a2 x.nums.length k2n, .string (zW x.frm.name), .int .i64 x.frm.port, .int .i64 x.frm.place, .string (zW x.tgt.name), .int .i64 x.tgt.port, .int .i64 x.tgt.place, .int .i64 x.place]] W fun e w' => e = .returned (.bool true) /\ Below W.heap.size W w') := fun W hb => bM x a1 a2 k1n k2n W hfl (HM1.below hb) (HM2.below hb)
   clear HM1 HM2 hfl
   generalize x.nums.length = xl at *
   go_wp2
   refine zP 11 (fun i u v => match i with
    | 0 => v = .pointer (some ⟨w.heap.size, 1, none⟩)
    | 1 => v = .slice (some ⟨g1, o1, none⟩) n c1
    | 2 => v = .int .i64 (k : Int)
    | 3 => v = .pointer (some ⟨g1, o1 + k * 11, none⟩)
    | 4 => v = .agg #[.int .u8 x.kind, .string (zW x.name), .string (zW x.tag), .slice a1 xl k1n, .string (zW x.frm.name), .int .i64 x.frm.port, .int .i64 x.frm.place, .string (zW x.tgt.name), .int .i64 x.tgt.port, .int .i64 x.tgt.place, .int .i64 x.place]
    | 5 => v = .pointer (some ⟨w.heap.size + 1, 1, none⟩)
    | 6 => v = .slice (some ⟨g2, o2, none⟩) n c2
    | 7 => v = .int .i64 (k : Int)
    | 8 => v = .pointer (some ⟨g2, o2 + k * 11, none⟩)
    | 9 => v = .agg #[.int .u8 x.kind, .string (zW x.name), .string (zW x.tag), .slice a2 xl k2n, .string (zW x.frm.name), .int .i64 x.frm.port, .int .i64 x.frm.place, .string (zW x.tgt.name), .int .i64 x.tgt.port, .int .i64 x.tgt.place, .int .i64 x.place]
    | 10 => v = .bool true
    | _ => True) (by kernel_rfl) (by kernel_rfl) (by kernel_rfl) (by kernel_rfl) ?_ ?_ ?_
   ·intro i w v w' h hb
    match i, h with
    | 0, h => exact h
    | 1, h => exact h
    | 2, h => exact h
    | 3, h => exact h
    | 4, h => exact h
    | 5, h => exact h
    | 6, h => exact h
    | 7, h => exact h
    | 8, h => exact h
    | 9, h => exact h
    | 10, h => exact h
    | _ + 11, _ => trivial
   ·intro i o ρ w' hi ho hb hc hf hfr zY
    have LK : ∀ {a : Addr} {x : Value}, wr.cell? a = some x -> w'.cell? a = some x := fun h2 => zX hb h2
    have k1 := LK y1
    have k2 := LK y2
    have p0 := LK c0
    have p1 := LK c1q
    have p2 := LK c2q
    have p3 := LK c3
    have p4 := LK c4
    have p5 := LK c5
    have p6 := LK c6
    have p7 := LK c7
    have p8 := LK c8
    have p9 := LK c9
    have p10 := LK c10
    have r0 := LK d0
    have r1 := LK d1
    have r2 := LK d2
    have r3 := LK d3
    have r4 := LK d4
    have r5 := LK d5
    have r6 := LK d6
    have r7 := LK d7
    have r8 := LK d8
    have r9 := LK d9
    have r10 := LK d10
    match i, hi with
    | 0, _ =>
     simp only [qS] at ho
     subst ho
     have ts : ρ (.tmp 2) = .pointer (some ⟨w.heap.size, 0, none⟩) := hfr 2 (by kernel_rfl)
     simp [go_sem, ts]
     exact qB
    | 1, _ =>
     simp only [qS] at ho
     subst ho
     have ts : ρ (.tmp 27) = .pointer (some ⟨w.heap.size, 1, none⟩) := zY 0 27 (by kernel_rfl) (by kernel_rfl)
     simp [go_sem, ts, k1]
     exact qB
    | 2, _ =>
     simp only [qS] at ho
     subst ho
     have ts : ρ (.tmp 5) = .int .i64 (k : Int) := hfr 5 (by kernel_rfl)
     simp [go_sem, ts]
     exact qB
    | 3, _ =>
     simp only [qS] at ho
     subst ho
     have ts : ρ (.tmp 28) = .slice (some ⟨g1, o1, none⟩) n c1 := zY 1 28 (by kernel_rfl) (by kernel_rfl)
     have tk : ρ (.tmp 29) = .int .i64 (k : Int) := zY 2 29 (by kernel_rfl) (by kernel_rfl)
     simp [go_sem, ts, tk, hki]
     exact qB
    | 4, _ =>
     simp only [qS] at ho
     subst ho
     have ts : ρ (.tmp 30) = .pointer (some ⟨g1, o1 + k * 11, none⟩) := zY 3 30 (by kernel_rfl) (by kernel_rfl)
     simp [go_sem, ts, p0, p1, p2, p3, p4, p5, p6, p7, p8, p9, p10]
     exact qB
    | 5, _ =>
     simp only [qS] at ho
     subst ho
     have ts : ρ (.tmp 3) = .pointer (some ⟨w.heap.size + 1, 0, none⟩) := hfr 3 (by kernel_rfl)
     simp [go_sem, ts]
     exact qB
    | 6, _ =>
     simp only [qS] at ho
     subst ho
     have ts : ρ (.tmp 32) = .pointer (some ⟨w.heap.size + 1, 1, none⟩) := zY 5 32 (by kernel_rfl) (by kernel_rfl)
     simp [go_sem, ts, k2]
     exact qB
    | 7, _ =>
     simp only [qS] at ho
     subst ho
     have ts : ρ (.tmp 5) = .int .i64 (k : Int) := hfr 5 (by kernel_rfl)
     simp [go_sem, ts]
     exact qB
    | 8, _ =>
     simp only [qS] at ho
     subst ho
     have ts : ρ (.tmp 33) = .slice (some ⟨g2, o2, none⟩) n c2 := zY 6 33 (by kernel_rfl) (by kernel_rfl)
     have tk : ρ (.tmp 34) = .int .i64 (k : Int) := zY 7 34 (by kernel_rfl) (by kernel_rfl)
     simp [go_sem, ts, tk, hki]
     exact qB
    | 9, _ =>
     simp only [qS] at ho
     subst ho
     have ts : ρ (.tmp 35) = .pointer (some ⟨g2, o2 + k * 11, none⟩) := zY 8 35 (by kernel_rfl) (by kernel_rfl)
     simp [go_sem, ts, r0, r1, r2, r3, r4, r5, r6, r7, r8, r9, r10]
     exact qB
    | 10, _ =>
     simp only [qS] at ho
     subst ho
     have ts : ρ (.tmp 31) = .agg #[.int .u8 x.kind, .string (zW x.name), .string (zW x.tag), .slice a1 xl k1n, .string (zW x.frm.name), .int .i64 x.frm.port, .int .i64 x.frm.place, .string (zW x.tgt.name), .int .i64 x.tgt.port, .int .i64 x.tgt.place, .int .i64 x.place] := zY 4 31 (by kernel_rfl) (by kernel_rfl)
     have tk : ρ (.tmp 36) = .agg #[.int .u8 x.kind, .string (zW x.name), .string (zW x.tag), .slice a2 xl k2n, .string (zW x.frm.name), .int .i64 x.frm.port, .int .i64 x.frm.place, .string (zW x.tgt.name), .int .i64 x.tgt.port, .int .i64 x.tgt.place, .int .i64 x.place] := zY 9 36 (by kernel_rfl) (by kernel_rfl)
     simp [go_sem, ts, tk, hf]
     exact ⟨rfl, (HSI.out w' hb).mono fun e u h => ⟨_, h.1, h.2, rfl⟩⟩
   intro V w9 q9 hS
   have e0 : V 0 = .pointer (some ⟨w.heap.size, 1, none⟩) := hS 0 (by decide)
   have e1 : V 1 = .slice (some ⟨g1, o1, none⟩) n c1 := hS 1 (by decide)
   have e2 : V 2 = .int .i64 (k : Int) := hS 2 (by decide)
   have e3 : V 3 = .pointer (some ⟨g1, o1 + k * 11, none⟩) := hS 3 (by decide)
   have e4 : V 4 = .agg #[.int .u8 x.kind, .string (zW x.name), .string (zW x.tag), .slice a1 xl k1n, .string (zW x.frm.name), .int .i64 x.frm.port, .int .i64 x.frm.place, .string (zW x.tgt.name), .int .i64 x.tgt.port, .int .i64 x.tgt.place, .int .i64 x.place] := hS 4 (by decide)
   have e5 : V 5 = .pointer (some ⟨w.heap.size + 1, 1, none⟩) := hS 5 (by decide)
   have e6 : V 6 = .slice (some ⟨g2, o2, none⟩) n c2 := hS 6 (by decide)
   have e7 : V 7 = .int .i64 (k : Int) := hS 7 (by decide)
   have e8 : V 8 = .pointer (some ⟨g2, o2 + k * 11, none⟩) := hS 8 (by decide)
   have e9 : V 9 = .agg #[.int .u8 x.kind, .string (zW x.name), .string (zW x.tag), .slice a2 xl k2n, .string (zW x.frm.name), .int .i64 x.frm.port, .int .i64 x.frm.place, .string (zW x.tgt.name), .int .i64 x.tgt.port, .int .i64 x.tgt.place, .int .i64 x.place] := hS 9 (by decide)
   have e10 : V 10 = .bool true := hS 10 (by decide)
   simp only [List.drop_succ_cons, List.drop_zero, List.take_succ_cons, List.take_zero, yL, e0, e1, e2, e3, e4, e5, e6, e7, e8, e9, e10]
   simp only [Act.put, qU]
   clear hS e0 e1 e2 e3 e4 e5 e6 e7 e8 e9 e10 V
   go_wp2
   go_roundg (n - (k + 1))
   case measure => omega
   case rel => exact ⟨k + 1, by omega, rfl, by go_num, HBE.out.trans (q9.mono HBE.out.size)⟩
  have hki : ¬ (k : Int) < (n : Int) := by omega
  go_wp2
  go_ret
  exact ⟨rfl, HB0.out.trans (HBE.out.mono HB0.out.size)⟩
end Go.Proofs.Ytgoconkleicmkaa
