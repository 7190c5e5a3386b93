/- Texts of one chain. -/
import Derived.Test.YtgoconkleicmkaaPartQ
import Derived.Test.YtgoconkleicmkaaPartGraphBuilds32
import Derived.Test.YtgoconkleicmkaaPartGraphBuilds36
namespace Go.Proofs.Ytgoconkleicmkaa
open Go.ChangeShapes Go.WideShapes Go.ChangeAt Go.RowKit
theorem sizW8 : (Try.prog.info? 57).map (·.size) = some 4 := by kernel_rfl
def lK (w : World) (nm : List UInt8) (K : List yO) (e : Ending) (w' : World) : Prop :=
 if (yI nm K).2.1 = 0 then BldY nm (yT nm K) w e w' else e = .returned (.tuple #[.agg #[.string ⟨#[]⟩, .slice none 0 0, .slice none 0 0, .slice none 0 0, .slice none 0 0], .agg #[.int .i64 (yI nm K).2.1, .int .i64 (yI nm K).2.2]]) /\ Below w.heap.size w w'
theorem eI (x : yO) (r : List yO) (m : Nat) (f : FL) : xB (x :: r) m f = if x.kind = (f.kind : Int) then (if m = f.number then uX x f.stop else xB r (m + 1) f) else xB r m f := rfl
theorem UV {w w' : World} {nm : List UInt8} {K : List yO} {x1 x2 x3 x4 : Option Addr} {d1 d2 d3 d4 n1 n2 n3 n4 : Nat} {As : List (GA × Value)} {Es : List (GE × Value)} {Ps Os : List GP} (h1 : w'.ownsRow w.heap.size 61 3 (.slice x1 n1 d1) As.length (As.flatMap aP)) (h2 : w'.ownsRow w.heap.size 64 5 (.slice x2 n2 d2) Es.length (Es.flatMap eP)) (h3 : w'.ownsRow w.heap.size 83 3 (.slice x3 n3 d3) Ps.length (Ps.flatMap pP)) (h4 : w'.ownsRow w.heap.size 83 3 (.slice x4 n4 d4) Os.length (Os.flatMap pP)) (hL : oG (xF K) K As Es Ps Os) (ha : ∀ p ∈ As, YX w.heap.size w' p) (he : ∀ p ∈ Es, YW w.heap.size w' p) (hK : K.length <= 2000000) :
 sH w' x1 x2 x3 x4 (kV nm K) := by
 have e : kV nm K = ⟨nm, As.map Prod.fst, Es.map Prod.fst, Ps, Os⟩ := by unfold kV ofN; rw [<- hL.a, <- hL.e, <- hL.i, <- hL.o]
 have hl := hL.len
 rw [e]
 exact ⟨nH h1 (fun p hp => ⟨(ha p hp).1, tG (ha p hp).2.2 (ha p hp).2.1⟩), nG h2 (fun p hp => tG (he p hp).2 (he p hp).1), sR h3, sR h4, by show (As.map Prod.fst).length <= _; rw [List.length_map]; omega, by show (Es.map Prod.fst).length <= _; rw [List.length_map]; omega, by show Ps.length <= _; omega, by show Os.length <= _; omega⟩
set_option maxRecDepth 100000 in
set_option maxHeartbeats 32000000 in
theorem eH (nm : List UInt8) (a : Option Addr) (n c : Nat) (L : List (yO × Value)) (w : World) (hn : L.length = n) (h : nS w a L) (hO : bZ w L) (hl : n <= 2000000) :
 Calls Try.prog 7 #[.agg #[.string (zW nm), .slice a n c]] w (lK w nm (L.map Prod.fst)) := by
 have ba := (((Below.refl w.heap.size w).alloc (Nat.le_refl _) (.cells #[.string (zW nm), .slice a n c] 24)).alloc (by simp) (.cells #[.string ⟨#[]⟩, .slice none 0 0, .slice none 0 0, .slice none 0 0, .slice none 0 0] 31)).alloc (by simp; omega) (.cells #[.int .i64 0, .int .i64 0] 34)
 have B0 : Hid (Bx w #[.string (zW nm), .slice a n c] #[.string ⟨#[]⟩, .slice none 0 0, .slice none 0 0, .slice none 0 0, .slice none 0 0] #[.int .i64 0, .int .i64 0] (((w.alloc (.cells #[.string (zW nm), .slice a n c] 24)).alloc (.cells #[.string ⟨#[]⟩, .slice none 0 0, .slice none 0 0, .slice none 0 0, .slice none 0 0] 31)).alloc (.cells #[.int .i64 0, .int .i64 0] 34))) := by
  have sb := ((zU 24 w #[.string (zW nm), .slice a n c]).below ((Below.refl _ _).alloc (Nat.le_refl _) (.cells #[.string ⟨#[]⟩, .slice none 0 0, .slice none 0 0, .slice none 0 0, .slice none 0 0] 31))).below ((Below.refl _ _).alloc (Nat.le_refl _) (.cells #[.int .i64 0, .int .i64 0] 34))
  have rb : zN 31 (w.heap.size + 1) (((w.alloc (.cells #[.string (zW nm), .slice a n c] 24)).alloc (.cells #[.string ⟨#[]⟩, .slice none 0 0, .slice none 0 0, .slice none 0 0, .slice none 0 0] 31)).alloc (.cells #[.int .i64 0, .int .i64 0] 34)) #[.string ⟨#[]⟩, .slice none 0 0, .slice none 0 0, .slice none 0 0, .slice none 0 0] := by
   have h3 := (zU 31 (w.alloc (.cells #[.string (zW nm), .slice a n c] 24)) #[.string ⟨#[]⟩, .slice none 0 0, .slice none 0 0, .slice none 0 0, .slice none 0 0]).below ((Below.refl _ _).alloc (Nat.le_refl _) (.cells #[.int .i64 0, .int .i64 0] 34))
   rw [World.size_alloc] at h3
   exact h3
  have gb : zN 34 (w.heap.size + 2) (((w.alloc (.cells #[.string (zW nm), .slice a n c] 24)).alloc (.cells #[.string ⟨#[]⟩, .slice none 0 0, .slice none 0 0, .slice none 0 0, .slice none 0 0] 31)).alloc (.cells #[.int .i64 0, .int .i64 0] 34)) #[.int .i64 0, .int .i64 0] := by
   have h3 := zU 34 ((w.alloc (.cells #[.string (zW nm), .slice a n c] 24)).alloc (.cells #[.string ⟨#[]⟩, .slice none 0 0, .slice none 0 0, .slice none 0 0, .slice none 0 0] 31)) #[.int .i64 0, .int .i64 0]
   rw [World.size_alloc, World.size_alloc] at h3
   exact h3
  exact ⟨sb, rb, gb, ba⟩
 have HR := zZ h
 have HO := zZ hO
 have HL := zZ hn
 have hnI : (n : Int) <= 2000000 := by omega
 have ONO : Hid (∀ cd pl, cd ≠ 0 -> (yI nm (L.map Prod.fst)).2 = (cd, pl) -> ∀ e w', (e = .returned (.tuple #[.agg #[.string ⟨#[]⟩, .slice none 0 0, .slice none 0 0, .slice none 0 0, .slice none 0 0], .agg #[.int .i64 cd, .int .i64 pl]]) /\ Below w.heap.size w w') -> lK w nm (L.map Prod.fst) e w') := fun cd pl h0 hb e w' q => by
  unfold lK
  rw [hb, if_neg h0]
  exact q
 have OYES : Hid ((yI nm (L.map Prod.fst)).2.1 = 0 -> ∀ e w', BldY nm (yT nm (L.map Prod.fst)) w e w' -> lK w nm (L.map Prod.fst) e w') := fun h0 e w' q => by
  unfold lK
  rw [if_pos h0]
  exact q
 generalize lK w nm (L.map Prod.fst) = RE at *
 clear ba h hO hn
 go_enter Try.func7, Try.ntmps7
 go_upto_region 1 with fail
 generalize ((w.alloc (.cells #[.string (zW nm), .slice a n c] 24)).alloc (.cells #[.string ⟨#[]⟩, .slice none 0 0, .slice none 0 0, .slice none 0 0, .slice none 0 0] 31)).alloc (.cells #[.int .i64 0, .int .i64 0] 34) = W0 at *
 go_wp2
 go_loopg [4] n (fun gk v wr => ∃ k : Nat, k <= n /\ gk = n - k /\ v = .int .i64 (k : Int) /\ (∀ j, j < k -> xH (yV L j).1 = false) /\ W0 = wr)
 case atStart => exact ⟨0, Nat.zero_le _, rfl, rfl, fun j hj => absurd hj (Nat.not_lt_zero _), rfl⟩
 case round =>
  obtain ⟨k, hk, rfl, rfl, hall, rfl⟩ := hrel
  have AL := zZ hall
  clear hall
  have y1 : W0.cell? ⟨w.heap.size, 1, none⟩ = some (.slice a n c) := B0.out.s.cell rfl
  by_cases hlt : k < n
  ·have hki : (k : Int) < (n : Int) := by omega
   have hkl : k < L.length := by have := HL.out; omega
   rcases (HR.out.below B0.out.bel).lie with e | ⟨gb, off, rfl, hc⟩
   ·rw [e] at hkl; exact absurd hkl (Nat.not_lt_zero _)
   have c0 := (hc k hkl).c0
   have HPL : Hid (w.cell? ⟨gb, off + k * 11 + 10, none⟩ = some (.int .i64 (yV L k).1.place)) := by
    rcases HR.out.lie with e | ⟨gb', off', e, hc'⟩
    ·rw [e] at hkl; exact absurd hkl (Nat.not_lt_zero _)
    cases e; exact (hc' k hkl).c10
   have BB := zZ (bJ nm hkl AL.out)
   have LK : Hid (xH (yV L k).1 = (decide ((yV L k).1.kind < 1) || decide (4 < (yV L k).1.kind))) := rfl
   have HX : Hid (xH (yV L k).1 = false -> ∀ j, j < k + 1 -> xH (yV L j).1 = false) := fun e j hj => by
    by_cases q : j < k
    ·exact AL.out j q
    rw [show j = k by omega]; exact e
   clear hc hkl
   obtain ⟨pl, hpl⟩ : ∃ q, (yV L k).1.place = q := ⟨_, rfl⟩
   rw [hpl] at HPL BB
   obtain ⟨ki, hki2⟩ : ∃ q, (yV L k).1.kind = q := ⟨_, rfl⟩
   rw [hki2] at LK c0
   clear hpl hki2
   generalize (yV L k).1 = xx at *
   cases h1 : decide (ki < 1) with
   | true =>
    have BH := zZ (ONO.out 1 pl (by decide) (BB.out (by rw [LK.out, h1]; rfl)))
    clear BB LK HX
    go_upto_region 5 with fail
    refine zB [8, 9] (fun d i u z => match i with
     | 0 => z = .agg #[.string ⟨#[]⟩, .slice none 0 0, .slice none 0 0, .slice none 0 0, .slice none 0 0]
     | 1 => z = .pointer (some ⟨w.heap.size, 1, none⟩)
     | 2 => z = .slice (some ⟨gb, off, none⟩) n c
     | 3 => z = .int .i64 (k : Int)
     | 4 => z = .pointer (some ⟨gb, off + k * 11, none⟩)
     | 5 => z = .pointer (some ⟨gb, off + k * 11 + 10, none⟩)
     | 6 => z = .int .i64 pl
     | 7 => z = .agg #[.int .i64 1, .int .i64 pl]
     | 8 => True
     | 9 => True
     | _ => True) (fun d u => (d 9 = true -> Bx w #[.string (zW nm), .slice (some ⟨gb, off, none⟩) n c] #[.string ⟨#[]⟩, .slice none 0 0, .slice none 0 0, .slice none 0 0, .slice none 0 0] #[.int .i64 1, .int .i64 pl] u) /\ (d 9 = false -> Bx w #[.string (zW nm), .slice (some ⟨gb, off, none⟩) n c] #[.string ⟨#[]⟩, .slice none 0 0, .slice none 0 0, .slice none 0 0, .slice none 0 0] #[.int .i64 0, .int .i64 0] u)) (by kernel_rfl) (by kernel_rfl) (by kernel_rfl) ?_ ?_ ?_ ?_ ?_ ?_ (by kernel_rfl)
    ·intro d i w v w' h hb
     match i, h with
     | 0, h => exact h
     | 1, h => exact h
     | 2, h => exact h
     | 3, h => exact h
     | 4, h => exact h
     | 5, h => exact h
     | 6, h => exact h
     | 7, h => exact h
     | 8, h => exact h
     | 9, h => exact h
     | _ + 10, _ => trivial
    ·intro d u u' h hb
     exact ⟨fun e => (h.1 e).below hb, fun e => (h.2 e).below hb⟩
    ·exact ⟨fun e => absurd e (by decide), fun _ => B0.out⟩
    ·intro d i o ρ w' hm ho hf hg hC hcs hfs hfr zY
     match i, hm, ho, hf, hg, hfr, zY with
     | 0, _, ho, hf, hg, hfr, zY =>
      simp only [qS] at ho
      subst ho
      refine ⟨fun _ => ?_, qF⟩
      simp [go_sem]
      exact qB
     | 1, _, ho, hf, hg, hfr, zY =>
      simp only [qS] at ho
      subst ho
      refine ⟨fun _ => ?_, qF⟩
      have ts : ρ (.tmp 1) = .pointer (some ⟨w.heap.size, 0, none⟩) := hfr 1 (by kernel_rfl)
      simp [go_sem, ts]
      exact qB
     | 2, _, ho, hf, hg, hfr, zY =>
      simp only [qS] at ho
      subst ho
      refine ⟨fun _ => ?_, qF⟩
      have bx : Bx w #[.string (zW nm), .slice (some ⟨gb, off, none⟩) n c] #[.string ⟨#[]⟩, .slice none 0 0, .slice none 0 0, .slice none 0 0, .slice none 0 0] #[.int .i64 0, .int .i64 0] w' := hC.2 (hf 9 (by decide) (by kernel_rfl))
      have cc : w'.cell? ⟨w.heap.size, 1, none⟩ = some (.slice (some ⟨gb, off, none⟩) n c) := bx.s.cell rfl
      have d0 : ρ (.tmp 34) = .pointer (some ⟨w.heap.size, 1, none⟩) := zY 1 34 (by kernel_rfl) (by kernel_rfl)
      simp [go_sem, d0, cc]
      exact qB
     | 3, _, ho, hf, hg, hfr, zY =>
      simp only [qS] at ho
      subst ho
      refine ⟨fun _ => ?_, qF⟩
      have ts : ρ (.tmp 4) = .int .i64 (k : Int) := hfr 4 (by kernel_rfl)
      simp [go_sem, ts]
      exact qB
     | 4, _, ho, hf, hg, hfr, zY =>
      simp only [qS] at ho
      subst ho
      refine ⟨fun _ => ?_, qF⟩
      have d0 : ρ (.tmp 35) = .slice (some ⟨gb, off, none⟩) n c := zY 2 35 (by kernel_rfl) (by kernel_rfl)
      have d1 : ρ (.tmp 36) = .int .i64 (k : Int) := zY 3 36 (by kernel_rfl) (by kernel_rfl)
      simp [go_sem, d0, d1, hki]
      exact qB
     | 5, _, ho, hf, hg, hfr, zY =>
      simp only [qS] at ho
      subst ho
      refine ⟨fun _ => ?_, qF⟩
      have d0 : ρ (.tmp 37) = .pointer (some ⟨gb, off + k * 11, none⟩) := zY 4 37 (by kernel_rfl) (by kernel_rfl)
      simp [go_sem, d0]
      exact qB
     | 6, _, ho, hf, hg, hfr, zY =>
      simp only [qS] at ho
      subst ho
      refine ⟨fun _ => ?_, qF⟩
      have bx : Bx w #[.string (zW nm), .slice (some ⟨gb, off, none⟩) n c] #[.string ⟨#[]⟩, .slice none 0 0, .slice none 0 0, .slice none 0 0, .slice none 0 0] #[.int .i64 0, .int .i64 0] w' := hC.2 (hf 9 (by decide) (by kernel_rfl))
      have cc : w'.cell? ⟨gb, off + k * 11 + 10, none⟩ = some (.int .i64 pl) := zX bx.bel HPL.out
      have d0 : ρ (.tmp 38) = .pointer (some ⟨gb, off + k * 11 + 10, none⟩) := zY 5 38 (by kernel_rfl) (by kernel_rfl)
      simp [go_sem, d0, cc]
      exact qB
     | 7, _, ho, hf, hg, hfr, zY =>
      simp only [qS] at ho
      subst ho
      refine ⟨fun _ => ?_, qF⟩
      have d0 : ρ (.tmp 39) = .int .i64 pl := zY 6 39 (by kernel_rfl) (by kernel_rfl)
      simp [go_sem, d0, hcs]
      exact qB
     | 8, hm, _, _, _, _, _ => exact qD hm
     | 9, hm, _, _, _, _, _ => exact qD hm
     | n + 10, _, ho, _, _, _, _ => simp at ho
    ·intro d i o ρ w' hm ho h0 hf hg hC hcs hfs hfr zY
     match i, hm, ho, h0, hf, hg, hfr, zY with
     | 0, hm, _, _, _, _, _, _ => exact qD hm
     | 1, hm, _, _, _, _, _, _ => exact qD hm
     | 2, hm, _, _, _, _, _, _ => exact qD hm
     | 3, hm, _, _, _, _, _, _ => exact qD hm
     | 4, hm, _, _, _, _, _, _ => exact qD hm
     | 5, hm, _, _, _, _, _, _ => exact qD hm
     | 6, hm, _, _, _, _, _, _ => exact qD hm
     | 7, hm, _, _, _, _, _, _ => exact qD hm
     | 8, _, ho, h0, hf, hg, hfr, zY =>
      simp only [qS] at ho
      subst ho
      refine ⟨rfl, ?_⟩
      have t0 : ρ (.tmp 33) = .agg #[.string ⟨#[]⟩, .slice none 0 0, .slice none 0 0, .slice none 0 0, .slice none 0 0] := zY 0 33 (by kernel_rfl) (by kernel_rfl)
      have tp : ρ (.tmp 2) = .pointer (some ⟨w.heap.size + 1, 0, none⟩) := hfr 2 (by kernel_rfl)
      refine yP 31 (.tmp 2) (.tmp 33) rfl (w.heap.size + 1) 31 _ _ tp t0 (hC.2 (hf 9 (by decide) (by kernel_rfl))).g qZ rfl rfl ?_
      intro w8 hB8 hU8
      refine ⟨⟨fun e => absurd ((hf 9 (by decide) (by kernel_rfl)).symm.trans (by simpa [yN] using e)) (by decide), fun _ => (hC.2 (hf 9 (by decide) (by kernel_rfl))).setG hB8 hU8⟩, fun h => absurd rfl h, ?_⟩
      intro j t _ hs
      match j, hs with
      | 0, hs => exact hs
      | 1, hs => exact hs
      | 2, hs => exact hs
      | 3, hs => exact hs
      | 4, hs => exact hs
      | 5, hs => exact hs
      | 6, hs => exact hs
      | 7, hs => exact hs
      | 8, hs => exact hs
      | 9, hs => exact hs
      | _ + 10, _ => trivial
     | 9, _, ho, h0, hf, hg, hfr, zY =>
      simp only [qS] at ho
      subst ho
      refine ⟨rfl, ?_⟩
      have t0 : ρ (.tmp 40) = .agg #[.int .i64 1, .int .i64 pl] := zY 7 40 (by kernel_rfl) (by kernel_rfl)
      have tp : ρ (.tmp 3) = .pointer (some ⟨w.heap.size + 2, 0, none⟩) := hfr 3 (by kernel_rfl)
      refine yP 34 (.tmp 3) (.tmp 40) rfl (w.heap.size + 2) 34 _ _ tp t0 (hC.2 h0).f kY rfl rfl ?_
      intro w8 hB8 hU8
      refine ⟨⟨fun _ => (hC.2 h0).setF hB8 hU8, fun e => absurd e (by simp [yN])⟩, fun h => absurd rfl h, ?_⟩
      intro j t _ hs
      match j, hs with
      | 0, hs => exact hs
      | 1, hs => exact hs
      | 2, hs => exact hs
      | 3, hs => exact hs
      | 4, hs => exact hs
      | 5, hs => exact hs
      | 6, hs => exact hs
      | 7, hs => exact hs
      | 8, hs => exact hs
      | 9, hs => exact hs
      | _ + 10, _ => trivial
     | n + 10, _, ho, _, _, _, _, _ => simp at ho
    intro V w9 hC9 hS
    simp only [yL, wJ]
    simp only [Act.put, qU]
    clear hS
    have BZ := zZ (hC9.1 rfl)
    clear hC9
    go_wp2
    have r0 : w9.cell? ⟨w.heap.size + 1, 0, none⟩ = some (.string ⟨#[]⟩) := BZ.out.g.cell rfl
    have r1 : w9.cell? ⟨w.heap.size + 1, 1, none⟩ = some (.slice none 0 0) := BZ.out.g.cell rfl
    have r2 : w9.cell? ⟨w.heap.size + 1, 2, none⟩ = some (.slice none 0 0) := BZ.out.g.cell rfl
    have r3 : w9.cell? ⟨w.heap.size + 1, 3, none⟩ = some (.slice none 0 0) := BZ.out.g.cell rfl
    have r4 : w9.cell? ⟨w.heap.size + 1, 4, none⟩ = some (.slice none 0 0) := BZ.out.g.cell rfl
    have u0 : w9.cell? ⟨w.heap.size + 2, 0, none⟩ = some (.int .i64 1) := BZ.out.f.cell rfl
    have u1 : w9.cell? ⟨w.heap.size + 2, 1, none⟩ = some (.int .i64 pl) := BZ.out.f.cell rfl
    refine bodyPost_ret (v := .tuple #[.agg #[.string ⟨#[]⟩, .slice none 0 0, .slice none 0 0, .slice none 0 0, .slice none 0 0], .agg #[.int .i64 1, .int .i64 pl]]) (by simp [results, Try.results7, go_sem, r0, r1, r2, r3, r4, u0, u1]) rfl ?_
    exact BH.out _ _ ⟨rfl, BZ.out.bel⟩
   | false =>
    cases h2 : decide (4 < ki) with
    | true =>
     have BH := zZ (ONO.out 1 pl (by decide) (BB.out (by rw [LK.out, h1, h2]; rfl)))
     clear BB LK HX
     go_upto_region 5 with fail
     refine zB [8, 9] (fun d i u z => match i with
      | 0 => z = .agg #[.string ⟨#[]⟩, .slice none 0 0, .slice none 0 0, .slice none 0 0, .slice none 0 0]
      | 1 => z = .pointer (some ⟨w.heap.size, 1, none⟩)
      | 2 => z = .slice (some ⟨gb, off, none⟩) n c
      | 3 => z = .int .i64 (k : Int)
      | 4 => z = .pointer (some ⟨gb, off + k * 11, none⟩)
      | 5 => z = .pointer (some ⟨gb, off + k * 11 + 10, none⟩)
      | 6 => z = .int .i64 pl
      | 7 => z = .agg #[.int .i64 1, .int .i64 pl]
      | 8 => True
      | 9 => True
      | _ => True) (fun d u => (d 9 = true -> Bx w #[.string (zW nm), .slice (some ⟨gb, off, none⟩) n c] #[.string ⟨#[]⟩, .slice none 0 0, .slice none 0 0, .slice none 0 0, .slice none 0 0] #[.int .i64 1, .int .i64 pl] u) /\ (d 9 = false -> Bx w #[.string (zW nm), .slice (some ⟨gb, off, none⟩) n c] #[.string ⟨#[]⟩, .slice none 0 0, .slice none 0 0, .slice none 0 0, .slice none 0 0] #[.int .i64 0, .int .i64 0] u)) (by kernel_rfl) (by kernel_rfl) (by kernel_rfl) ?_ ?_ ?_ ?_ ?_ ?_ (by kernel_rfl)
     ·intro d i w v w' h hb
      match i, h with
      | 0, h => exact h
      | 1, h => exact h
      | 2, h => exact h
      | 3, h => exact h
      | 4, h => exact h
      | 5, h => exact h
      | 6, h => exact h
      | 7, h => exact h
      | 8, h => exact h
      | 9, h => exact h
      | _ + 10, _ => trivial
     ·intro d u u' h hb
      exact ⟨fun e => (h.1 e).below hb, fun e => (h.2 e).below hb⟩
     ·exact ⟨fun e => absurd e (by decide), fun _ => B0.out⟩
     ·intro d i o ρ w' hm ho hf hg hC hcs hfs hfr zY
      match i, hm, ho, hf, hg, hfr, zY with
      | 0, _, ho, hf, hg, hfr, zY =>
       simp only [qS] at ho
       subst ho
       refine ⟨fun _ => ?_, qF⟩
       simp [go_sem]
       exact qB
      | 1, _, ho, hf, hg, hfr, zY =>
       simp only [qS] at ho
       subst ho
       refine ⟨fun _ => ?_, qF⟩
       have ts : ρ (.tmp 1) = .pointer (some ⟨w.heap.size, 0, none⟩) := hfr 1 (by kernel_rfl)
       simp [go_sem, ts]
       exact qB
      | 2, _, ho, hf, hg, hfr, zY =>
       simp only [qS] at ho
       subst ho
       refine ⟨fun _ => ?_, qF⟩
       have bx : Bx w #[.string (zW nm), .slice (some ⟨gb, off, none⟩) n c] #[.string ⟨#[]⟩, .slice none 0 0, .slice none 0 0, .slice none 0 0, .slice none 0 0] #[.int .i64 0, .int .i64 0] w' := hC.2 (hf 9 (by decide) (by kernel_rfl))
       have cc : w'.cell? ⟨w.heap.size, 1, none⟩ = some (.slice (some ⟨gb, off, none⟩) n c) := bx.s.cell rfl
       have d0 : ρ (.tmp 34) = .pointer (some ⟨w.heap.size, 1, none⟩) := zY 1 34 (by kernel_rfl) (by kernel_rfl)
       simp [go_sem, d0, cc]
       exact qB
      | 3, _, ho, hf, hg, hfr, zY =>
       simp only [qS] at ho
       subst ho
       refine ⟨fun _ => ?_, qF⟩
       have ts : ρ (.tmp 4) = .int .i64 (k : Int) := hfr 4 (by kernel_rfl)
       simp [go_sem, ts]
       exact qB
      | 4, _, ho, hf, hg, hfr, zY =>
       simp only [qS] at ho
       subst ho
       refine ⟨fun _ => ?_, qF⟩
       have d0 : ρ (.tmp 35) = .slice (some ⟨gb, off, none⟩) n c := zY 2 35 (by kernel_rfl) (by kernel_rfl)
       have d1 : ρ (.tmp 36) = .int .i64 (k : Int) := zY 3 36 (by kernel_rfl) (by kernel_rfl)
       simp [go_sem, d0, d1, hki]
       exact qB
      | 5, _, ho, hf, hg, hfr, zY =>
       simp only [qS] at ho
       subst ho
       refine ⟨fun _ => ?_, qF⟩
       have d0 : ρ (.tmp 37) = .pointer (some ⟨gb, off + k * 11, none⟩) := zY 4 37 (by kernel_rfl) (by kernel_rfl)
       simp [go_sem, d0]
       exact qB
      | 6, _, ho, hf, hg, hfr, zY =>
       simp only [qS] at ho
       subst ho
       refine ⟨fun _ => ?_, qF⟩
       have bx : Bx w #[.string (zW nm), .slice (some ⟨gb, off, none⟩) n c] #[.string ⟨#[]⟩, .slice none 0 0, .slice none 0 0, .slice none 0 0, .slice none 0 0] #[.int .i64 0, .int .i64 0] w' := hC.2 (hf 9 (by decide) (by kernel_rfl))
       have cc : w'.cell? ⟨gb, off + k * 11 + 10, none⟩ = some (.int .i64 pl) := zX bx.bel HPL.out
       have d0 : ρ (.tmp 38) = .pointer (some ⟨gb, off + k * 11 + 10, none⟩) := zY 5 38 (by kernel_rfl) (by kernel_rfl)
       simp [go_sem, d0, cc]
       exact qB
      | 7, _, ho, hf, hg, hfr, zY =>
       simp only [qS] at ho
       subst ho
       refine ⟨fun _ => ?_, qF⟩
       have d0 : ρ (.tmp 39) = .int .i64 pl := zY 6 39 (by kernel_rfl) (by kernel_rfl)
       simp [go_sem, d0, hcs]
       exact qB
      | 8, hm, _, _, _, _, _ => exact qD hm
      | 9, hm, _, _, _, _, _ => exact qD hm
      | n + 10, _, ho, _, _, _, _ => simp at ho
     ·intro d i o ρ w' hm ho h0 hf hg hC hcs hfs hfr zY
      match i, hm, ho, h0, hf, hg, hfr, zY with
      | 0, hm, _, _, _, _, _, _ => exact qD hm
      | 1, hm, _, _, _, _, _, _ => exact qD hm
      | 2, hm, _, _, _, _, _, _ => exact qD hm
      | 3, hm, _, _, _, _, _, _ => exact qD hm
      | 4, hm, _, _, _, _, _, _ => exact qD hm
      | 5, hm, _, _, _, _, _, _ => exact qD hm
      | 6, hm, _, _, _, _, _, _ => exact qD hm
      | 7, hm, _, _, _, _, _, _ => exact qD hm
      | 8, _, ho, h0, hf, hg, hfr, zY =>
       simp only [qS] at ho
       subst ho
       refine ⟨rfl, ?_⟩
       have t0 : ρ (.tmp 33) = .agg #[.string ⟨#[]⟩, .slice none 0 0, .slice none 0 0, .slice none 0 0, .slice none 0 0] := zY 0 33 (by kernel_rfl) (by kernel_rfl)
       have tp : ρ (.tmp 2) = .pointer (some ⟨w.heap.size + 1, 0, none⟩) := hfr 2 (by kernel_rfl)
       refine yP 31 (.tmp 2) (.tmp 33) rfl (w.heap.size + 1) 31 _ _ tp t0 (hC.2 (hf 9 (by decide) (by kernel_rfl))).g qZ rfl rfl ?_
       intro w8 hB8 hU8
       refine ⟨⟨fun e => absurd ((hf 9 (by decide) (by kernel_rfl)).symm.trans (by simpa [yN] using e)) (by decide), fun _ => (hC.2 (hf 9 (by decide) (by kernel_rfl))).setG hB8 hU8⟩, fun h => absurd rfl h, ?_⟩
       intro j t _ hs
       match j, hs with
       | 0, hs => exact hs
       | 1, hs => exact hs
       | 2, hs => exact hs
       | 3, hs => exact hs
       | 4, hs => exact hs
       | 5, hs => exact hs
       | 6, hs => exact hs
       | 7, hs => exact hs
       | 8, hs => exact hs
       | 9, hs => exact hs
       | _ + 10, _ => trivial
      | 9, _, ho, h0, hf, hg, hfr, zY =>
       simp only [qS] at ho
       subst ho
       refine ⟨rfl, ?_⟩
       have t0 : ρ (.tmp 40) = .agg #[.int .i64 1, .int .i64 pl] := zY 7 40 (by kernel_rfl) (by kernel_rfl)
       have tp : ρ (.tmp 3) = .pointer (some ⟨w.heap.size + 2, 0, none⟩) := hfr 3 (by kernel_rfl)
       refine yP 34 (.tmp 3) (.tmp 40) rfl (w.heap.size + 2) 34 _ _ tp t0 (hC.2 h0).f kY rfl rfl ?_
       intro w8 hB8 hU8
       refine ⟨⟨fun _ => (hC.2 h0).setF hB8 hU8, fun e => absurd e (by simp [yN])⟩, fun h => absurd rfl h, ?_⟩
       intro j t _ hs
       match j, hs with
       | 0, hs => exact hs
       | 1, hs => exact hs
       | 2, hs => exact hs
       | 3, hs => exact hs
       | 4, hs => exact hs
       | 5, hs => exact hs
       | 6, hs => exact hs
       | 7, hs => exact hs
       | 8, hs => exact hs
       | 9, hs => exact hs
       | _ + 10, _ => trivial
      | n + 10, _, ho, _, _, _, _, _ => simp at ho
     intro V w9 hC9 hS
     simp only [yL, wJ]
     simp only [Act.put, qU]
     clear hS
     have BZ := zZ (hC9.1 rfl)
     clear hC9
     go_wp2
     have r0 : w9.cell? ⟨w.heap.size + 1, 0, none⟩ = some (.string ⟨#[]⟩) := BZ.out.g.cell rfl
     have r1 : w9.cell? ⟨w.heap.size + 1, 1, none⟩ = some (.slice none 0 0) := BZ.out.g.cell rfl
     have r2 : w9.cell? ⟨w.heap.size + 1, 2, none⟩ = some (.slice none 0 0) := BZ.out.g.cell rfl
     have r3 : w9.cell? ⟨w.heap.size + 1, 3, none⟩ = some (.slice none 0 0) := BZ.out.g.cell rfl
     have r4 : w9.cell? ⟨w.heap.size + 1, 4, none⟩ = some (.slice none 0 0) := BZ.out.g.cell rfl
     have u0 : w9.cell? ⟨w.heap.size + 2, 0, none⟩ = some (.int .i64 1) := BZ.out.f.cell rfl
     have u1 : w9.cell? ⟨w.heap.size + 2, 1, none⟩ = some (.int .i64 pl) := BZ.out.f.cell rfl
     refine bodyPost_ret (v := .tuple #[.agg #[.string ⟨#[]⟩, .slice none 0 0, .slice none 0 0, .slice none 0 0, .slice none 0 0], .agg #[.int .i64 1, .int .i64 pl]]) (by simp [results, Try.results7, go_sem, r0, r1, r2, r3, r4, u0, u1]) rfl ?_
     exact BH.out _ _ ⟨rfl, BZ.out.bel⟩
    | false =>
     have NX := zZ (HX.out (by rw [LK.out, h1, h2]; rfl))
     clear BB LK HX
     go_wp2
     go_roundg (n - (k + 1))
     case measure => omega
     case rel => exact ⟨k + 1, by omega, rfl, by go_num, NX.out, rfl⟩
  have hki : ¬ (k : Int) < (n : Int) := by omega
  have ALL := zZ (YM (L := L) (fun j hj => AL.out j (by have := HL.out; omega)))
  have LU : Hid (Calls Try.prog 19 #[.agg #[.string (zW nm), .slice a n c]] W0 (OfE W0 nm (L.map Prod.fst))) := VQ nm a n c L W0 HL.out (HR.out.below B0.out.bel) (HO.out.below B0.out.bel) hl ALL.out.2
  have IXN : Hid (¬ 0 <= vQ (L.map Prod.fst) 0) := fun q => by
   rcases qE (L.map Prod.fst) 0 with e | e
   ·omega
   have hj : (vQ (L.map Prod.fst) 0).toNat < (L.map Prod.fst).length := by omega
   have key : ∀ (K : List yO) (i : Nat), (∀ x ∈ K, xH x = false) -> vQ K i = -1 := by
    intro K
    induction K with
    | nil => intro i _; rfl
    | cons x r ih =>
     intro i hx
     show (if xH x = true then (i : Int) else vQ r (i + 1)) = -1
     rw [if_neg (by rw [hx x List.mem_cons_self]; decide)]
     exact ih (i + 1) fun y hy => hx y (List.mem_cons_of_mem _ hy)
   rw [key _ 0 ALL.out.1] at q
   omega
  have HBS : Hid (yI nm (L.map Prod.fst) = if (yZ (yT nm (L.map Prod.fst))).code ≠ 0 then (YE, (yZ (yT nm (L.map Prod.fst))).code, xB (L.map Prod.fst) 0 (yZ (yT nm (L.map Prod.fst)))) else (yT nm (L.map Prod.fst), 0, 0)) := by
   show _ = _
   unfold yI
   rw [if_neg IXN.out]
  have FOF : Hid (xQ (kV nm (L.map Prod.fst)) = yZ (yT nm (L.map Prod.fst))) := by show _ = _; rw [<- vZ, ZL]
  have FSO : Hid ((yZ (yT nm (L.map Prod.fst))).code = 0 -> kV nm (L.map Prod.fst) = yT nm (L.map Prod.fst)) := fun e => ZK e
  have KLEN : Hid ((L.map Prod.fst).length <= 2000000) := by show _ <= _; rw [List.length_map, HL.out]; exact hl
  obtain ⟨⟨fc, fk, fnr, fs⟩, hff⟩ : ∃ f, yZ (yT nm (L.map Prod.fst)) = f := ⟨_, rfl⟩
  have HNR : fnr <= 96 := by have q := pF (yT nm (L.map Prod.fst)); rw [hff] at q; exact q
  rw [hff] at HBS FOF FSO
  clear hff IXN AL y1
  have y0 : W0.cell? ⟨w.heap.size, 0, none⟩ = some (.string (zW nm)) := B0.out.s.cell rfl
  have y1 : W0.cell? ⟨w.heap.size, 1, none⟩ = some (.slice a n c) := B0.out.s.cell rfl
  go_upto_region 7 with (go_at_call 19; (with_reducible refine LU.out.mono ?_); rintro e w2 ⟨v1, v2, v3, v4, As, Es, Ps, Os, rfl, h1, h2, h3, h4, hL, hpa, hpe, b2⟩; obtain ⟨x1, d1, rfl⟩ := zC h1; obtain ⟨x2, d2, rfl⟩ := zC h2; obtain ⟨x3, d3, rfl⟩ := zC h3; obtain ⟨x4, d4, rfl⟩ := zC h4; have GR0 := zZ (UV (nm := nm) h1 h2 h3 h4 hL hpa hpe KLEN.out); have R1 := zZ h1; have R2 := zZ h2; have R3 := zZ h3; have R4 := zZ h4; have PA := zZ hpa; have PE := zZ hpe; have HLL := zZ hL; have B2 := zZ b2; clear h1 h2 h3 h4 hL hpa hpe b2)
  clear y0 y1 LU
  have bv := (Below.refl w2.heap.size w2).alloc (Nat.le_refl _) (.cells #[.string (zW nm), .slice x1 As.length d1, .slice x2 Es.length d2, .slice x3 Ps.length d3, .slice x4 Os.length d4] 31)
  have BXV := zZ ((B0.out.below B2.out).below bv)
  have G5 := zZ (zU 31 w2 #[.string (zW nm), .slice x1 As.length d1, .slice x2 Es.length d2, .slice x3 Ps.length d3, .slice x4 Os.length d4])
  have GR1 := zZ (GR0.out.below bv)
  have z0 : (w2.alloc (.cells #[.string (zW nm), .slice x1 As.length d1, .slice x2 Es.length d2, .slice x3 Ps.length d3, .slice x4 Os.length d4] 31)).cell? ⟨w2.heap.size, 0, none⟩ = some (.string (zW nm)) := G5.out.cell rfl
  have z1 : (w2.alloc (.cells #[.string (zW nm), .slice x1 As.length d1, .slice x2 Es.length d2, .slice x3 Ps.length d3, .slice x4 Os.length d4] 31)).cell? ⟨w2.heap.size, 1, none⟩ = some (.slice x1 As.length d1) := G5.out.cell rfl
  have z2 : (w2.alloc (.cells #[.string (zW nm), .slice x1 As.length d1, .slice x2 Es.length d2, .slice x3 Ps.length d3, .slice x4 Os.length d4] 31)).cell? ⟨w2.heap.size, 2, none⟩ = some (.slice x2 Es.length d2) := G5.out.cell rfl
  have z3 : (w2.alloc (.cells #[.string (zW nm), .slice x1 As.length d1, .slice x2 Es.length d2, .slice x3 Ps.length d3, .slice x4 Os.length d4] 31)).cell? ⟨w2.heap.size, 3, none⟩ = some (.slice x3 Ps.length d3) := G5.out.cell rfl
  have z4 : (w2.alloc (.cells #[.string (zW nm), .slice x1 As.length d1, .slice x2 Es.length d2, .slice x3 Ps.length d3, .slice x4 Os.length d4] 31)).cell? ⟨w2.heap.size, 4, none⟩ = some (.slice x4 Os.length d4) := G5.out.cell rfl
  have FF : Hid (Calls Try.prog 20 #[.agg #[.string (zW nm), .slice x1 As.length d1, .slice x2 Es.length d2, .slice x3 Ps.length d3, .slice x4 Os.length d4]] (w2.alloc (.cells #[.string (zW nm), .slice x1 As.length d1, .slice x2 Es.length d2, .slice x3 Ps.length d3, .slice x4 Os.length d4] 31)) fun e w' => e = .returned (.agg #[.int .i64 fc, .int .u8 (fk : Int), .int .i64 (fnr : Int), .int .i64 (fs : Int)]) /\ Below (w2.alloc (.cells #[.string (zW nm), .slice x1 As.length d1, .slice x2 Es.length d2, .slice x3 Ps.length d3, .slice x4 Os.length d4] 31)).heap.size (w2.alloc (.cells #[.string (zW nm), .slice x1 As.length d1, .slice x2 Es.length d2, .slice x3 Ps.length d3, .slice x4 Os.length d4] 31)) w') := by
   have r := bQ (kV nm (L.map Prod.fst)) x1 x2 x3 x4 d1 d2 d3 d4 (w2.alloc (.cells #[.string (zW nm), .slice x1 As.length d1, .slice x2 Es.length d2, .slice x3 Ps.length d3, .slice x4 Os.length d4] 31)) GR1.out
   have e1 : (kV nm (L.map Prod.fst)).A.length = As.length := by have q := congrArg List.length HLL.out.a; rw [List.length_map] at q; exact q.symm
   have e2 : (kV nm (L.map Prod.fst)).E.length = Es.length := by have q := congrArg List.length HLL.out.e; rw [List.length_map] at q; exact q.symm
   have e3 : (kV nm (L.map Prod.fst)).ins.length = Ps.length := by rw [HLL.out.i]; rfl
   have e4 : (kV nm (L.map Prod.fst)).outs.length = Os.length := by rw [HLL.out.o]; rfl
   rw [e1, e2, e3, e4, FOF.out] at r
   exact r
  have BV2 := zZ bv
  clear bv GR0 GR1 FOF
  have hw2V : w2.heap.size < (w2.alloc (.cells #[.string (zW nm), .slice x1 As.length d1, .slice x2 Es.length d2, .slice x3 Ps.length d3, .slice x4 Os.length d4] 31)).heap.size := G5.out.lt
  generalize w2.alloc (.cells #[.string (zW nm), .slice x1 As.length d1, .slice x2 Es.length d2, .slice x3 Ps.length d3, .slice x4 Os.length d4] 31) = V2 at *
  go_upto_region 8 with (first
   | (refine zM _ rfl 57 (.tmp 6) (.tmp 44) rfl rfl w3.heap.size 57 _ _ rfl rfl (zU 57 w3 #[.int .i64 0, .int .u8 0, .int .i64 0, .int .i64 0]) sizW8 rfl rfl ?_; intro w4 hN hU; have N4 := zZ hN; have U4 := zZ hU; clear hN hU)
   | (go_at_call 20; (with_reducible refine FF.out.mono ?_); rintro e w3 ⟨rfl, b3⟩; have B3 := zZ b3; clear b3 z0 z1 z2 z3 z4))
  have B34 : Hid (Below V2.heap.size V2 w4) := by
   have q := B3.out.alloc B3.out.size (.cells #[.int .i64 0, .int .u8 0, .int .i64 0, .int .i64 0] 57)
   exact q.trans (U4.out.below B3.out.size q.size)
  have B6 := zZ (BXV.out.below B34.out)
  have G6 := zZ (G5.out.below B34.out)
  have B24 := zZ (BV2.out.trans (B34.out.mono BV2.out.size))
  have F6 := N4
  obtain ⟨b6, hb6⟩ : ∃ q, w3.heap.size = q := ⟨_, rfl⟩
  have N61 : Hid (b6 ≠ w.heap.size + 1) := by
   have h1 := BXV.out.g.lt
   have h2 := B3.out.size
   show _ ≠ _
   omega
  have N62 : Hid (b6 ≠ w.heap.size + 2) := by
   have h1 := BXV.out.f.lt
   have h2 := B3.out.size
   show _ ≠ _
   omega
  rw [hb6] at F6 ⊢
  have f0 : w4.cell? ⟨b6, 0, none⟩ = some (.int .i64 fc) := F6.out.cell rfl
  clear FF B3 U4 N4 hb6 B34 BXV G5 B2 BV2
  by_cases hfc : fc = 0
  ·subst hfc
   have hBS : yI nm (L.map Prod.fst) = (yT nm (L.map Prod.fst), 0, 0) := by rw [HBS.out, if_neg (by decide)]
   have YS := zZ (OYES.out (by rw [hBS]))
   have e1 : (yT nm (L.map Prod.fst)).A.length = As.length := by have q := congrArg List.length HLL.out.a; rw [List.length_map] at q; rw [<- FSO.out rfl]; exact q.symm
   have e2 : (yT nm (L.map Prod.fst)).E.length = Es.length := by have q := congrArg List.length HLL.out.e; rw [List.length_map] at q; rw [<- FSO.out rfl]; exact q.symm
   have e3 : (yT nm (L.map Prod.fst)).ins.length = Ps.length := by rw [<- FSO.out rfl, HLL.out.i]; rfl
   have e4 : (yT nm (L.map Prod.fst)).outs.length = Os.length := by rw [<- FSO.out rfl, HLL.out.o]; rfl
   have GFS := zZ (FSO.out rfl)
   have E1 := zZ e1
   have E2 := zZ e2
   have E3 := zZ e3
   have E4 := zZ e4
   clear hBS e1 e2 e3 e4 HBS FSO
   have z0 : w4.cell? ⟨w2.heap.size, 0, none⟩ = some (.string (zW nm)) := G6.out.cell rfl
   have z1 : w4.cell? ⟨w2.heap.size, 1, none⟩ = some (.slice x1 As.length d1) := G6.out.cell rfl
   have z2 : w4.cell? ⟨w2.heap.size, 2, none⟩ = some (.slice x2 Es.length d2) := G6.out.cell rfl
   have z3 : w4.cell? ⟨w2.heap.size, 3, none⟩ = some (.slice x3 Ps.length d3) := G6.out.cell rfl
   have z4 : w4.cell? ⟨w2.heap.size, 4, none⟩ = some (.slice x4 Os.length d4) := G6.out.cell rfl
   go_wp2_with (first
    | (refine zM _ rfl 34 (.tmp 3) (.tmp 49) rfl rfl (w.heap.size + 2) 34 _ _ rfl rfl BY.out.f kY rfl rfl ?_; intro w8 hN hU; have BZ := zZ (BY.out.setF hN hU); have U8 := zZ hU; clear hN hU)
    | (refine zM _ rfl 31 (.tmp 2) (.tmp 48) rfl rfl (w.heap.size + 1) 31 _ _ rfl rfl B6.out.g qZ rfl rfl ?_; intro w6 hN hU; have BY := zZ (B6.out.setG hN hU); have U6 := zZ hU; clear hN hU))
   have r0 : w8.cell? ⟨w.heap.size + 1, 0, none⟩ = some (.string (zW nm)) := BZ.out.g.cell rfl
   have r1 : w8.cell? ⟨w.heap.size + 1, 1, none⟩ = some (.slice x1 As.length d1) := BZ.out.g.cell rfl
   have r2 : w8.cell? ⟨w.heap.size + 1, 2, none⟩ = some (.slice x2 Es.length d2) := BZ.out.g.cell rfl
   have r3 : w8.cell? ⟨w.heap.size + 1, 3, none⟩ = some (.slice x3 Ps.length d3) := BZ.out.g.cell rfl
   have r4 : w8.cell? ⟨w.heap.size + 1, 4, none⟩ = some (.slice x4 Os.length d4) := BZ.out.g.cell rfl
   have u0 : w8.cell? ⟨w.heap.size + 2, 0, none⟩ = some (.int .i64 0) := BZ.out.f.cell rfl
   have u1 : w8.cell? ⟨w.heap.size + 2, 1, none⟩ = some (.int .i64 0) := BZ.out.f.cell rfl
   refine bodyPost_ret (v := .tuple #[.agg #[.string (zW nm), .slice x1 As.length d1, .slice x2 Es.length d2, .slice x3 Ps.length d3, .slice x4 Os.length d4], .agg #[.int .i64 0, .int .i64 0]]) (by simp [results, Try.results7, go_sem, r0, r1, r2, r3, r4, u0, u1]) rfl ?_
   refine YS.out _ _ ⟨x1, x2, x3, x4, d1, d2, d3, d4, by rw [E1.out, E2.out, E3.out, E4.out], ?_, BZ.out.bel⟩
   have hw0 : w.heap.size + 2 < W0.heap.size := B0.out.f.lt
   have kp : ∀ {T c n : Nat} {v : Value} {xs : List Value}, w2.ownsRow W0.heap.size T c v n xs -> w8.ownsRow W0.heap.size T c v n xs := fun r => zV r fun k e => by
    have q1 := zT r k e
    have q2 := zR r k e
    have q3 := B24.out.size
    have q4 := U6.out.size
    exact ((U8.out.block k (by omega) (by omega)).trans (U6.out.block k (by omega) (by omega))).trans (B24.out.block k q2)
   rw [<- GFS.out]
   exact UV (kp R1.out) (kp R2.out) (kp R3.out) (kp R4.out) HLL.out (fun p hp => ⟨(PA.out p hp).1, (PA.out p hp).2.1, kp (PA.out p hp).2.2⟩) (fun p hp => ⟨(PE.out p hp).1, kp (PE.out p hp).2⟩) KLEN.out
  have hfb : (fc == 0) = false := by simpa using hfc
  have hBS : (yI nm (L.map Prod.fst)).2 = (fc, xB (L.map Prod.fst) 0 ⟨fc, fk, fnr, fs⟩) := by rw [HBS.out, if_pos hfc]
  have BH := zZ (ONO.out fc _ hfc hBS)
  obtain ⟨at9, hat9⟩ : ∃ q, xB (L.map Prod.fst) 0 ⟨fc, fk, fnr, fs⟩ = q := ⟨_, rfl⟩
  rw [hat9] at BH
  have HAT := zZ hat9
  have HFC := zZ hfc
  clear hBS hat9 hfc HBS FSO R1 R2 R3 R4 PA PE G6 OYES ONO
  go_wp2
  clear f0
  go_loopg [7, 8] n (fun gk u v wr => ∃ k m : Nat, k <= n /\ m <= k /\ gk = n - k /\ v = .int .i64 (k : Int) /\ u = .int .i64 (m : Int) /\ xB ((L.map Prod.fst).drop k) m ⟨fc, fk, fnr, fs⟩ = at9 /\ Bx w #[.string (zW nm), .slice a n c] #[.string ⟨#[]⟩, .slice none 0 0, .slice none 0 0, .slice none 0 0, .slice none 0 0] #[.int .i64 0, .int .i64 0] wr /\ zN 57 b6 wr #[.int .i64 fc, .int .u8 (fk : Int), .int .i64 (fnr : Int), .int .i64 (fs : Int)])
  case atStart => exact ⟨0, 0, Nat.zero_le _, Nat.le_refl _, rfl, rfl, rfl, HAT.out, B6.out, F6.out⟩
  case round =>
   clear B6 F6
   obtain ⟨k, m, hk, hm, rfl, rfl, rfl, hpl, hbx, hfx⟩ := hrel
   have HP := zZ hpl
   have BX := zZ hbx
   have FX := zZ hfx
   clear hpl hbx hfx
   have y1 : wr.cell? ⟨w.heap.size, 1, none⟩ = some (.slice a n c) := BX.out.s.cell rfl
   by_cases hlt : k < n
   ·have hki : (k : Int) < (n : Int) := by omega
    have hkl : k < L.length := by have := HL.out; omega
    rcases (HR.out.below BX.out.bel).lie with e | ⟨gb, off, rfl, hc⟩
    ·rw [e] at hkl; exact absurd hkl (Nat.not_lt_zero _)
    obtain ⟨c0, c1, c2, c3, c4, c5, c6, c7, c8, c9, c10⟩ := hc k hkl
    have hmem := yJ (L := L) hkl
    obtain ⟨qa, qc, hq, -⟩ := HO.out.args _ hmem
    rw [hq] at c3
    have DI := jG hkl
    rw [DI, eI] at HP
    generalize (yV L k).1 = x at *
    obtain ⟨ki, xn, xt, nu, ⟨fn, fp, fa⟩, ⟨tn, tp, ta⟩, pl⟩ := x
    obtain ⟨qn, hqn⟩ : ∃ q, nu.length = q := ⟨_, rfl⟩
    simp only at c0 c1 c2 c3 c4 c5 c6 c7 c8 c9 c10 HP
    rw [hqn] at c3
    clear hc hq hmem hqn DI hkl
    have bv := (Below.refl wr.heap.size wr).alloc (Nat.le_refl _) (.cells #[.int .u8 ki, .string (zW xn), .string (zW xt), .slice qa qn qc, .string (zW fn), .int .i64 fp, .int .i64 fa, .string (zW tn), .int .i64 tp, .int .i64 ta, .int .i64 pl] 45)
    have BX4 := zZ (BX.out.below bv)
    have F4 := zZ (FX.out.below bv)
    have I4 := zZ (zU 45 wr #[.int .u8 ki, .string (zW xn), .string (zW xt), .slice qa qn qc, .string (zW fn), .int .i64 fp, .int .i64 fa, .string (zW tn), .int .i64 tp, .int .i64 ta, .int .i64 pl])
    have hib1 : wr.heap.size ≠ w.heap.size + 1 := by have := BX.out.g.lt; omega
    have hib2 : wr.heap.size ≠ w.heap.size + 2 := by have := BX.out.f.lt; omega
    clear bv
    go_upto_region 15 with fail
    generalize wr.alloc (.cells #[.int .u8 ki, .string (zW xn), .string (zW xt), .slice qa qn qc, .string (zW fn), .int .i64 fp, .int .i64 fa, .string (zW tn), .int .i64 tp, .int .i64 ta, .int .i64 pl] 45) = W4 at *
    obtain ⟨ib, hib⟩ : ∃ q, wr.heap.size = q := ⟨_, rfl⟩
    rw [hib] at I4 hib1 hib2 ⊢
    have NI1 := zZ hib1
    have NI2 := zZ hib2
    clear hib hib1 hib2 c0 c1 c2 c3 c4 c5 c6 c7 c8 c9 c10 y1 BX FX
    have i0 : W4.cell? ⟨ib, 0, none⟩ = some (.int .u8 ki) := I4.out.cell rfl
    have f1 : W4.cell? ⟨b6, 1, none⟩ = some (.int .u8 (fk : Int)) := F4.out.cell rfl
    have f2 : W4.cell? ⟨b6, 2, none⟩ = some (.int .i64 (fnr : Int)) := F4.out.cell rfl
    have f3 : W4.cell? ⟨b6, 3, none⟩ = some (.int .i64 (fs : Int)) := F4.out.cell rfl
    by_cases hkd : ki = (fk : Int)
    ·have hkb : (ki != (fk : Int)) = false := by simpa using hkd
     rw [if_pos hkd] at HP
     by_cases hmn : m = fnr
     ·have hmb : ((m : Int) == (fnr : Int)) = true := by simp; omega
      rw [if_pos hmn] at HP
      clear hkd hmn
      by_cases h1 : fs = 1
      ·have h1b : ((fs : Int) == 1) = true := by simp; omega
       have e9 : fa = at9 := by rw [<- HP.out]; unfold uX; rw [if_pos h1]
       subst e9
       clear h1 HP
       go_upto_region 19 with fail
       clear i0 f1 f2 f3
       refine zB [7, 8] (fun d i u z => match i with
        | 0 => z = .agg #[.string ⟨#[]⟩, .slice none 0 0, .slice none 0 0, .slice none 0 0, .slice none 0 0]
        | 1 => z = .pointer (some ⟨b6, 0, none⟩)
        | 2 => z = .int .i64 fc
        | 3 => z = .pointer (some ⟨ib, 4, none⟩)
        | 4 => z = .pointer (some ⟨ib, 6, none⟩)
        | 5 => z = .int .i64 fa
        | 6 => z = .agg #[.int .i64 fc, .int .i64 fa]
        | 7 => True
        | 8 => True
        | _ => True) (fun d u => (d 8 = true -> Bx w #[.string (zW nm), .slice (some ⟨gb, off, none⟩) n c] #[.string ⟨#[]⟩, .slice none 0 0, .slice none 0 0, .slice none 0 0, .slice none 0 0] #[.int .i64 fc, .int .i64 fa] u) /\ (d 8 = false -> Bx w #[.string (zW nm), .slice (some ⟨gb, off, none⟩) n c] #[.string ⟨#[]⟩, .slice none 0 0, .slice none 0 0, .slice none 0 0, .slice none 0 0] #[.int .i64 0, .int .i64 0] u) /\ zN 57 b6 u #[.int .i64 fc, .int .u8 (fk : Int), .int .i64 (fnr : Int), .int .i64 (fs : Int)] /\ zN 45 ib u #[.int .u8 ki, .string (zW xn), .string (zW xt), .slice qa qn qc, .string (zW fn), .int .i64 fp, .int .i64 fa, .string (zW tn), .int .i64 tp, .int .i64 ta, .int .i64 pl]) (by kernel_rfl) (by kernel_rfl) (by kernel_rfl) ?_ ?_ ?_ ?_ ?_ ?_ (by kernel_rfl)
       ·intro d i w v w' h hb
        match i, h with
        | 0, h => exact h
        | 1, h => exact h
        | 2, h => exact h
        | 3, h => exact h
        | 4, h => exact h
        | 5, h => exact h
        | 6, h => exact h
        | 7, h => exact h
        | 8, h => exact h
        | _ + 9, _ => trivial
       ·intro d u u' h hb
        exact ⟨fun e => (h.1 e).below hb, fun e => (h.2.1 e).below hb, h.2.2.1.below hb, h.2.2.2.below hb⟩
       ·exact ⟨fun e => absurd e (by decide), fun _ => BX4.out, F4.out, I4.out⟩
       ·intro d i o ρ w' hm ho hf hg hC hcs hfs hfr zY
        match i, hm, ho, hf, hg, hfr, zY with
        | 0, _, ho, hf, hg, hfr, zY =>
         simp only [qS] at ho
         subst ho
         refine ⟨fun _ => ?_, qF⟩
         simp [go_sem]
         exact qB
        | 1, _, ho, hf, hg, hfr, zY =>
         simp only [qS] at ho
         subst ho
         refine ⟨fun _ => ?_, qF⟩
         have ts : ρ (.tmp 6) = .pointer (some ⟨b6, 0, none⟩) := hfr 6 (by kernel_rfl)
         simp [go_sem, ts]
         exact qB
        | 2, _, ho, hf, hg, hfr, zY =>
         simp only [qS] at ho
         subst ho
         refine ⟨fun _ => ?_, qF⟩
         have cc : w'.cell? ⟨b6, 0, none⟩ = some (.int .i64 fc) := hC.2.2.1.cell rfl
         have d0 : ρ (.tmp 76) = .pointer (some ⟨b6, 0, none⟩) := zY 1 76 (by kernel_rfl) (by kernel_rfl)
         simp [go_sem, d0, cc]
         exact qB
        | 3, _, ho, hf, hg, hfr, zY =>
         simp only [qS] at ho
         subst ho
         refine ⟨fun _ => ?_, qF⟩
         have ts : ρ (.tmp 9) = .pointer (some ⟨ib, 0, none⟩) := hfr 9 (by kernel_rfl)
         simp [go_sem, ts]
         exact qB
        | 4, _, ho, hf, hg, hfr, zY =>
         simp only [qS] at ho
         subst ho
         refine ⟨fun _ => ?_, qF⟩
         have d0 : ρ (.tmp 78) = .pointer (some ⟨ib, 4, none⟩) := zY 3 78 (by kernel_rfl) (by kernel_rfl)
         simp [go_sem, d0]
         exact qB
        | 5, _, ho, hf, hg, hfr, zY =>
         simp only [qS] at ho
         subst ho
         refine ⟨fun _ => ?_, qF⟩
         have cc : w'.cell? ⟨ib, 6, none⟩ = some (.int .i64 fa) := hC.2.2.2.cell rfl
         have d0 : ρ (.tmp 79) = .pointer (some ⟨ib, 6, none⟩) := zY 4 79 (by kernel_rfl) (by kernel_rfl)
         simp [go_sem, d0, cc]
         exact qB
        | 6, _, ho, hf, hg, hfr, zY =>
         simp only [qS] at ho
         subst ho
         refine ⟨fun _ => ?_, qF⟩
         have d0 : ρ (.tmp 77) = .int .i64 fc := zY 2 77 (by kernel_rfl) (by kernel_rfl)
         have d1 : ρ (.tmp 80) = .int .i64 fa := zY 5 80 (by kernel_rfl) (by kernel_rfl)
         simp [go_sem, d0, d1]
         exact qB
        | 7, hm, _, _, _, _, _ => exact qD hm
        | 8, hm, _, _, _, _, _ => exact qD hm
        | n + 9, _, ho, _, _, _, _ => simp at ho
       ·intro d i o ρ w' hm ho h0 hf hg hC hcs hfs hfr zY
        match i, hm, ho, h0, hf, hg, hfr, zY with
        | 0, hm, _, _, _, _, _, _ => exact qD hm
        | 1, hm, _, _, _, _, _, _ => exact qD hm
        | 2, hm, _, _, _, _, _, _ => exact qD hm
        | 3, hm, _, _, _, _, _, _ => exact qD hm
        | 4, hm, _, _, _, _, _, _ => exact qD hm
        | 5, hm, _, _, _, _, _, _ => exact qD hm
        | 6, hm, _, _, _, _, _, _ => exact qD hm
        | 7, _, ho, h0, hf, hg, hfr, zY =>
         simp only [qS] at ho
         subst ho
         refine ⟨rfl, ?_⟩
         have t0 : ρ (.tmp 75) = .agg #[.string ⟨#[]⟩, .slice none 0 0, .slice none 0 0, .slice none 0 0, .slice none 0 0] := zY 0 75 (by kernel_rfl) (by kernel_rfl)
         have tp : ρ (.tmp 2) = .pointer (some ⟨w.heap.size + 1, 0, none⟩) := hfr 2 (by kernel_rfl)
         refine yP 31 (.tmp 2) (.tmp 75) rfl (w.heap.size + 1) 31 _ _ tp t0 (hC.2.1 (hf 8 (by decide) (by kernel_rfl))).g qZ rfl rfl ?_
         intro w8 hB8 hU8
         refine ⟨⟨fun e => absurd ((hf 8 (by decide) (by kernel_rfl)).symm.trans (by simpa [yN] using e)) (by decide), fun _ => (hC.2.1 (hf 8 (by decide) (by kernel_rfl))).setG hB8 hU8, hC.2.2.1.keep (hU8.block _ hC.2.2.1.lt N61.out), hC.2.2.2.keep (hU8.block _ hC.2.2.2.lt NI1.out)⟩, fun h => absurd rfl h, ?_⟩
         intro j t _ hs
         match j, hs with
         | 0, hs => exact hs
         | 1, hs => exact hs
         | 2, hs => exact hs
         | 3, hs => exact hs
         | 4, hs => exact hs
         | 5, hs => exact hs
         | 6, hs => exact hs
         | 7, hs => exact hs
         | 8, hs => exact hs
         | _ + 9, _ => trivial
        | 8, _, ho, h0, hf, hg, hfr, zY =>
         simp only [qS] at ho
         subst ho
         refine ⟨rfl, ?_⟩
         have t0 : ρ (.tmp 81) = .agg #[.int .i64 fc, .int .i64 fa] := zY 6 81 (by kernel_rfl) (by kernel_rfl)
         have tp : ρ (.tmp 3) = .pointer (some ⟨w.heap.size + 2, 0, none⟩) := hfr 3 (by kernel_rfl)
         refine yP 34 (.tmp 3) (.tmp 81) rfl (w.heap.size + 2) 34 _ _ tp t0 (hC.2.1 h0).f kY rfl rfl ?_
         intro w8 hB8 hU8
         refine ⟨⟨fun _ => (hC.2.1 h0).setF hB8 hU8, fun e => absurd e (by simp [yN]), hC.2.2.1.keep (hU8.block _ hC.2.2.1.lt N62.out), hC.2.2.2.keep (hU8.block _ hC.2.2.2.lt NI2.out)⟩, fun h => absurd rfl h, ?_⟩
         intro j t _ hs
         match j, hs with
         | 0, hs => exact hs
         | 1, hs => exact hs
         | 2, hs => exact hs
         | 3, hs => exact hs
         | 4, hs => exact hs
         | 5, hs => exact hs
         | 6, hs => exact hs
         | 7, hs => exact hs
         | 8, hs => exact hs
         | _ + 9, _ => trivial
        | n + 9, _, ho, _, _, _, _, _ => simp at ho
       intro V w9 hC9 hS
       simp only [yL, wJ]
       simp only [Act.put, qU]
       clear hS
       have BZ := zZ (hC9.1 rfl)
       clear hC9
       go_wp2
       have r0 : w9.cell? ⟨w.heap.size + 1, 0, none⟩ = some (.string ⟨#[]⟩) := BZ.out.g.cell rfl
       have r1 : w9.cell? ⟨w.heap.size + 1, 1, none⟩ = some (.slice none 0 0) := BZ.out.g.cell rfl
       have r2 : w9.cell? ⟨w.heap.size + 1, 2, none⟩ = some (.slice none 0 0) := BZ.out.g.cell rfl
       have r3 : w9.cell? ⟨w.heap.size + 1, 3, none⟩ = some (.slice none 0 0) := BZ.out.g.cell rfl
       have r4 : w9.cell? ⟨w.heap.size + 1, 4, none⟩ = some (.slice none 0 0) := BZ.out.g.cell rfl
       have u0 : w9.cell? ⟨w.heap.size + 2, 0, none⟩ = some (.int .i64 fc) := BZ.out.f.cell rfl
       have u1 : w9.cell? ⟨w.heap.size + 2, 1, none⟩ = some (.int .i64 fa) := BZ.out.f.cell rfl
       refine bodyPost_ret (v := .tuple #[.agg #[.string ⟨#[]⟩, .slice none 0 0, .slice none 0 0, .slice none 0 0, .slice none 0 0], .agg #[.int .i64 fc, .int .i64 fa]]) (by simp [results, Try.results7, go_sem, r0, r1, r2, r3, r4, u0, u1]) rfl ?_
       exact BH.out _ _ ⟨rfl, BZ.out.bel⟩
      have h1b : ((fs : Int) == 1) = false := by simp; omega
      by_cases h2 : fs = 2
      ·have h2b : ((fs : Int) == 2) = true := by simp; omega
       have e9 : ta = at9 := by rw [<- HP.out]; unfold uX; rw [if_neg h1, if_pos h2]
       subst e9
       clear h1 h2 HP
       go_upto_region 21 with fail
       clear i0 f1 f2 f3
       refine zB [7, 8] (fun d i u z => match i with
        | 0 => z = .agg #[.string ⟨#[]⟩, .slice none 0 0, .slice none 0 0, .slice none 0 0, .slice none 0 0]
        | 1 => z = .pointer (some ⟨b6, 0, none⟩)
        | 2 => z = .int .i64 fc
        | 3 => z = .pointer (some ⟨ib, 7, none⟩)
        | 4 => z = .pointer (some ⟨ib, 9, none⟩)
        | 5 => z = .int .i64 ta
        | 6 => z = .agg #[.int .i64 fc, .int .i64 ta]
        | 7 => True
        | 8 => True
        | _ => True) (fun d u => (d 8 = true -> Bx w #[.string (zW nm), .slice (some ⟨gb, off, none⟩) n c] #[.string ⟨#[]⟩, .slice none 0 0, .slice none 0 0, .slice none 0 0, .slice none 0 0] #[.int .i64 fc, .int .i64 ta] u) /\ (d 8 = false -> Bx w #[.string (zW nm), .slice (some ⟨gb, off, none⟩) n c] #[.string ⟨#[]⟩, .slice none 0 0, .slice none 0 0, .slice none 0 0, .slice none 0 0] #[.int .i64 0, .int .i64 0] u) /\ zN 57 b6 u #[.int .i64 fc, .int .u8 (fk : Int), .int .i64 (fnr : Int), .int .i64 (fs : Int)] /\ zN 45 ib u #[.int .u8 ki, .string (zW xn), .string (zW xt), .slice qa qn qc, .string (zW fn), .int .i64 fp, .int .i64 fa, .string (zW tn), .int .i64 tp, .int .i64 ta, .int .i64 pl]) (by kernel_rfl) (by kernel_rfl) (by kernel_rfl) ?_ ?_ ?_ ?_ ?_ ?_ (by kernel_rfl)
       ·intro d i w v w' h hb
        match i, h with
        | 0, h => exact h
        | 1, h => exact h
        | 2, h => exact h
        | 3, h => exact h
        | 4, h => exact h
        | 5, h => exact h
        | 6, h => exact h
        | 7, h => exact h
        | 8, h => exact h
        | _ + 9, _ => trivial
       ·intro d u u' h hb
        exact ⟨fun e => (h.1 e).below hb, fun e => (h.2.1 e).below hb, h.2.2.1.below hb, h.2.2.2.below hb⟩
       ·exact ⟨fun e => absurd e (by decide), fun _ => BX4.out, F4.out, I4.out⟩
       ·intro d i o ρ w' hm ho hf hg hC hcs hfs hfr zY
        match i, hm, ho, hf, hg, hfr, zY with
        | 0, _, ho, hf, hg, hfr, zY =>
         simp only [qS] at ho
         subst ho
         refine ⟨fun _ => ?_, qF⟩
         simp [go_sem]
         exact qB
        | 1, _, ho, hf, hg, hfr, zY =>
         simp only [qS] at ho
         subst ho
         refine ⟨fun _ => ?_, qF⟩
         have ts : ρ (.tmp 6) = .pointer (some ⟨b6, 0, none⟩) := hfr 6 (by kernel_rfl)
         simp [go_sem, ts]
         exact qB
        | 2, _, ho, hf, hg, hfr, zY =>
         simp only [qS] at ho
         subst ho
         refine ⟨fun _ => ?_, qF⟩
         have cc : w'.cell? ⟨b6, 0, none⟩ = some (.int .i64 fc) := hC.2.2.1.cell rfl
         have d0 : ρ (.tmp 85) = .pointer (some ⟨b6, 0, none⟩) := zY 1 85 (by kernel_rfl) (by kernel_rfl)
         simp [go_sem, d0, cc]
         exact qB
        | 3, _, ho, hf, hg, hfr, zY =>
         simp only [qS] at ho
         subst ho
         refine ⟨fun _ => ?_, qF⟩
         have ts : ρ (.tmp 9) = .pointer (some ⟨ib, 0, none⟩) := hfr 9 (by kernel_rfl)
         simp [go_sem, ts]
         exact qB
        | 4, _, ho, hf, hg, hfr, zY =>
         simp only [qS] at ho
         subst ho
         refine ⟨fun _ => ?_, qF⟩
         have d0 : ρ (.tmp 87) = .pointer (some ⟨ib, 7, none⟩) := zY 3 87 (by kernel_rfl) (by kernel_rfl)
         simp [go_sem, d0]
         exact qB
        | 5, _, ho, hf, hg, hfr, zY =>
         simp only [qS] at ho
         subst ho
         refine ⟨fun _ => ?_, qF⟩
         have cc : w'.cell? ⟨ib, 9, none⟩ = some (.int .i64 ta) := hC.2.2.2.cell rfl
         have d0 : ρ (.tmp 88) = .pointer (some ⟨ib, 9, none⟩) := zY 4 88 (by kernel_rfl) (by kernel_rfl)
         simp [go_sem, d0, cc]
         exact qB
        | 6, _, ho, hf, hg, hfr, zY =>
         simp only [qS] at ho
         subst ho
         refine ⟨fun _ => ?_, qF⟩
         have d0 : ρ (.tmp 86) = .int .i64 fc := zY 2 86 (by kernel_rfl) (by kernel_rfl)
         have d1 : ρ (.tmp 89) = .int .i64 ta := zY 5 89 (by kernel_rfl) (by kernel_rfl)
         simp [go_sem, d0, d1]
         exact qB
        | 7, hm, _, _, _, _, _ => exact qD hm
        | 8, hm, _, _, _, _, _ => exact qD hm
        | n + 9, _, ho, _, _, _, _ => simp at ho
       ·intro d i o ρ w' hm ho h0 hf hg hC hcs hfs hfr zY
        match i, hm, ho, h0, hf, hg, hfr, zY with
        | 0, hm, _, _, _, _, _, _ => exact qD hm
        | 1, hm, _, _, _, _, _, _ => exact qD hm
        | 2, hm, _, _, _, _, _, _ => exact qD hm
        | 3, hm, _, _, _, _, _, _ => exact qD hm
        | 4, hm, _, _, _, _, _, _ => exact qD hm
        | 5, hm, _, _, _, _, _, _ => exact qD hm
        | 6, hm, _, _, _, _, _, _ => exact qD hm
        | 7, _, ho, h0, hf, hg, hfr, zY =>
         simp only [qS] at ho
         subst ho
         refine ⟨rfl, ?_⟩
         have t0 : ρ (.tmp 84) = .agg #[.string ⟨#[]⟩, .slice none 0 0, .slice none 0 0, .slice none 0 0, .slice none 0 0] := zY 0 84 (by kernel_rfl) (by kernel_rfl)
         have tp : ρ (.tmp 2) = .pointer (some ⟨w.heap.size + 1, 0, none⟩) := hfr 2 (by kernel_rfl)
         refine yP 31 (.tmp 2) (.tmp 84) rfl (w.heap.size + 1) 31 _ _ tp t0 (hC.2.1 (hf 8 (by decide) (by kernel_rfl))).g qZ rfl rfl ?_
         intro w8 hB8 hU8
         refine ⟨⟨fun e => absurd ((hf 8 (by decide) (by kernel_rfl)).symm.trans (by simpa [yN] using e)) (by decide), fun _ => (hC.2.1 (hf 8 (by decide) (by kernel_rfl))).setG hB8 hU8, hC.2.2.1.keep (hU8.block _ hC.2.2.1.lt N61.out), hC.2.2.2.keep (hU8.block _ hC.2.2.2.lt NI1.out)⟩, fun h => absurd rfl h, ?_⟩
         intro j t _ hs
         match j, hs with
         | 0, hs => exact hs
         | 1, hs => exact hs
         | 2, hs => exact hs
         | 3, hs => exact hs
         | 4, hs => exact hs
         | 5, hs => exact hs
         | 6, hs => exact hs
         | 7, hs => exact hs
         | 8, hs => exact hs
         | _ + 9, _ => trivial
        | 8, _, ho, h0, hf, hg, hfr, zY =>
         simp only [qS] at ho
         subst ho
         refine ⟨rfl, ?_⟩
         have t0 : ρ (.tmp 90) = .agg #[.int .i64 fc, .int .i64 ta] := zY 6 90 (by kernel_rfl) (by kernel_rfl)
         have tp : ρ (.tmp 3) = .pointer (some ⟨w.heap.size + 2, 0, none⟩) := hfr 3 (by kernel_rfl)
         refine yP 34 (.tmp 3) (.tmp 90) rfl (w.heap.size + 2) 34 _ _ tp t0 (hC.2.1 h0).f kY rfl rfl ?_
         intro w8 hB8 hU8
         refine ⟨⟨fun _ => (hC.2.1 h0).setF hB8 hU8, fun e => absurd e (by simp [yN]), hC.2.2.1.keep (hU8.block _ hC.2.2.1.lt N62.out), hC.2.2.2.keep (hU8.block _ hC.2.2.2.lt NI2.out)⟩, fun h => absurd rfl h, ?_⟩
         intro j t _ hs
         match j, hs with
         | 0, hs => exact hs
         | 1, hs => exact hs
         | 2, hs => exact hs
         | 3, hs => exact hs
         | 4, hs => exact hs
         | 5, hs => exact hs
         | 6, hs => exact hs
         | 7, hs => exact hs
         | 8, hs => exact hs
         | _ + 9, _ => trivial
        | n + 9, _, ho, _, _, _, _, _ => simp at ho
       intro V w9 hC9 hS
       simp only [yL, wJ]
       simp only [Act.put, qU]
       clear hS
       have BZ := zZ (hC9.1 rfl)
       clear hC9
       go_wp2
       have r0 : w9.cell? ⟨w.heap.size + 1, 0, none⟩ = some (.string ⟨#[]⟩) := BZ.out.g.cell rfl
       have r1 : w9.cell? ⟨w.heap.size + 1, 1, none⟩ = some (.slice none 0 0) := BZ.out.g.cell rfl
       have r2 : w9.cell? ⟨w.heap.size + 1, 2, none⟩ = some (.slice none 0 0) := BZ.out.g.cell rfl
       have r3 : w9.cell? ⟨w.heap.size + 1, 3, none⟩ = some (.slice none 0 0) := BZ.out.g.cell rfl
       have r4 : w9.cell? ⟨w.heap.size + 1, 4, none⟩ = some (.slice none 0 0) := BZ.out.g.cell rfl
       have u0 : w9.cell? ⟨w.heap.size + 2, 0, none⟩ = some (.int .i64 fc) := BZ.out.f.cell rfl
       have u1 : w9.cell? ⟨w.heap.size + 2, 1, none⟩ = some (.int .i64 ta) := BZ.out.f.cell rfl
       refine bodyPost_ret (v := .tuple #[.agg #[.string ⟨#[]⟩, .slice none 0 0, .slice none 0 0, .slice none 0 0, .slice none 0 0], .agg #[.int .i64 fc, .int .i64 ta]]) (by simp [results, Try.results7, go_sem, r0, r1, r2, r3, r4, u0, u1]) rfl ?_
       exact BH.out _ _ ⟨rfl, BZ.out.bel⟩
      have h2b : ((fs : Int) == 2) = false := by simp; omega
      have e9 : pl = at9 := by rw [<- HP.out]; unfold uX; rw [if_neg h1, if_neg h2]
      subst e9
      clear h1 h2 HP
      go_upto_region 22 with fail
      clear i0 f1 f2 f3
      refine zB [6, 7] (fun d i u z => match i with
       | 0 => z = .agg #[.string ⟨#[]⟩, .slice none 0 0, .slice none 0 0, .slice none 0 0, .slice none 0 0]
       | 1 => z = .pointer (some ⟨b6, 0, none⟩)
       | 2 => z = .int .i64 fc
       | 3 => z = .pointer (some ⟨ib, 10, none⟩)
       | 4 => z = .int .i64 pl
       | 5 => z = .agg #[.int .i64 fc, .int .i64 pl]
       | 6 => True
       | 7 => True
       | _ => True) (fun d u => (d 7 = true -> Bx w #[.string (zW nm), .slice (some ⟨gb, off, none⟩) n c] #[.string ⟨#[]⟩, .slice none 0 0, .slice none 0 0, .slice none 0 0, .slice none 0 0] #[.int .i64 fc, .int .i64 pl] u) /\ (d 7 = false -> Bx w #[.string (zW nm), .slice (some ⟨gb, off, none⟩) n c] #[.string ⟨#[]⟩, .slice none 0 0, .slice none 0 0, .slice none 0 0, .slice none 0 0] #[.int .i64 0, .int .i64 0] u) /\ zN 57 b6 u #[.int .i64 fc, .int .u8 (fk : Int), .int .i64 (fnr : Int), .int .i64 (fs : Int)] /\ zN 45 ib u #[.int .u8 ki, .string (zW xn), .string (zW xt), .slice qa qn qc, .string (zW fn), .int .i64 fp, .int .i64 fa, .string (zW tn), .int .i64 tp, .int .i64 ta, .int .i64 pl]) (by kernel_rfl) (by kernel_rfl) (by kernel_rfl) ?_ ?_ ?_ ?_ ?_ ?_ (by kernel_rfl)
      ·intro d i w v w' h hb
       match i, h with
       | 0, h => exact h
       | 1, h => exact h
       | 2, h => exact h
       | 3, h => exact h
       | 4, h => exact h
       | 5, h => exact h
       | 6, h => exact h
       | 7, h => exact h
       | _ + 8, _ => trivial
      ·intro d u u' h hb
       exact ⟨fun e => (h.1 e).below hb, fun e => (h.2.1 e).below hb, h.2.2.1.below hb, h.2.2.2.below hb⟩
      ·exact ⟨fun e => absurd e (by decide), fun _ => BX4.out, F4.out, I4.out⟩
      ·intro d i o ρ w' hm ho hf hg hC hcs hfs hfr zY
       match i, hm, ho, hf, hg, hfr, zY with
       | 0, _, ho, hf, hg, hfr, zY =>
        simp only [qS] at ho
        subst ho
        refine ⟨fun _ => ?_, qF⟩
        simp [go_sem]
        exact qB
       | 1, _, ho, hf, hg, hfr, zY =>
        simp only [qS] at ho
        subst ho
        refine ⟨fun _ => ?_, qF⟩
        have ts : ρ (.tmp 6) = .pointer (some ⟨b6, 0, none⟩) := hfr 6 (by kernel_rfl)
        simp [go_sem, ts]
        exact qB
       | 2, _, ho, hf, hg, hfr, zY =>
        simp only [qS] at ho
        subst ho
        refine ⟨fun _ => ?_, qF⟩
        have cc : w'.cell? ⟨b6, 0, none⟩ = some (.int .i64 fc) := hC.2.2.1.cell rfl
        have d0 : ρ (.tmp 92) = .pointer (some ⟨b6, 0, none⟩) := zY 1 92 (by kernel_rfl) (by kernel_rfl)
        simp [go_sem, d0, cc]
        exact qB
       | 3, _, ho, hf, hg, hfr, zY =>
        simp only [qS] at ho
        subst ho
        refine ⟨fun _ => ?_, qF⟩
        have ts : ρ (.tmp 9) = .pointer (some ⟨ib, 0, none⟩) := hfr 9 (by kernel_rfl)
        simp [go_sem, ts]
        exact qB
       | 4, _, ho, hf, hg, hfr, zY =>
        simp only [qS] at ho
        subst ho
        refine ⟨fun _ => ?_, qF⟩
        have cc : w'.cell? ⟨ib, 10, none⟩ = some (.int .i64 pl) := hC.2.2.2.cell rfl
        have d0 : ρ (.tmp 94) = .pointer (some ⟨ib, 10, none⟩) := zY 3 94 (by kernel_rfl) (by kernel_rfl)
        simp [go_sem, d0, cc]
        exact qB
       | 5, _, ho, hf, hg, hfr, zY =>
        simp only [qS] at ho
        subst ho
        refine ⟨fun _ => ?_, qF⟩
        have d0 : ρ (.tmp 93) = .int .i64 fc := zY 2 93 (by kernel_rfl) (by kernel_rfl)
        have d1 : ρ (.tmp 95) = .int .i64 pl := zY 4 95 (by kernel_rfl) (by kernel_rfl)
        simp [go_sem, d0, d1]
        exact qB
       | 6, hm, _, _, _, _, _ => exact qD hm
       | 7, hm, _, _, _, _, _ => exact qD hm
       | n + 8, _, ho, _, _, _, _ => simp at ho
      ·intro d i o ρ w' hm ho h0 hf hg hC hcs hfs hfr zY
       match i, hm, ho, h0, hf, hg, hfr, zY with
       | 0, hm, _, _, _, _, _, _ => exact qD hm
       | 1, hm, _, _, _, _, _, _ => exact qD hm
       | 2, hm, _, _, _, _, _, _ => exact qD hm
       | 3, hm, _, _, _, _, _, _ => exact qD hm
       | 4, hm, _, _, _, _, _, _ => exact qD hm
       | 5, hm, _, _, _, _, _, _ => exact qD hm
       | 6, _, ho, h0, hf, hg, hfr, zY =>
        simp only [qS] at ho
        subst ho
        refine ⟨rfl, ?_⟩
        have t0 : ρ (.tmp 91) = .agg #[.string ⟨#[]⟩, .slice none 0 0, .slice none 0 0, .slice none 0 0, .slice none 0 0] := zY 0 91 (by kernel_rfl) (by kernel_rfl)
        have tp : ρ (.tmp 2) = .pointer (some ⟨w.heap.size + 1, 0, none⟩) := hfr 2 (by kernel_rfl)
        refine yP 31 (.tmp 2) (.tmp 91) rfl (w.heap.size + 1) 31 _ _ tp t0 (hC.2.1 (hf 7 (by decide) (by kernel_rfl))).g qZ rfl rfl ?_
        intro w8 hB8 hU8
        refine ⟨⟨fun e => absurd ((hf 7 (by decide) (by kernel_rfl)).symm.trans (by simpa [yN] using e)) (by decide), fun _ => (hC.2.1 (hf 7 (by decide) (by kernel_rfl))).setG hB8 hU8, hC.2.2.1.keep (hU8.block _ hC.2.2.1.lt N61.out), hC.2.2.2.keep (hU8.block _ hC.2.2.2.lt NI1.out)⟩, fun h => absurd rfl h, ?_⟩
        intro j t _ hs
        match j, hs with
        | 0, hs => exact hs
        | 1, hs => exact hs
        | 2, hs => exact hs
        | 3, hs => exact hs
        | 4, hs => exact hs
        | 5, hs => exact hs
        | 6, hs => exact hs
        | 7, hs => exact hs
        | _ + 8, _ => trivial
       | 7, _, ho, h0, hf, hg, hfr, zY =>
        simp only [qS] at ho
        subst ho
        refine ⟨rfl, ?_⟩
        have t0 : ρ (.tmp 96) = .agg #[.int .i64 fc, .int .i64 pl] := zY 5 96 (by kernel_rfl) (by kernel_rfl)
        have tp : ρ (.tmp 3) = .pointer (some ⟨w.heap.size + 2, 0, none⟩) := hfr 3 (by kernel_rfl)
        refine yP 34 (.tmp 3) (.tmp 96) rfl (w.heap.size + 2) 34 _ _ tp t0 (hC.2.1 h0).f kY rfl rfl ?_
        intro w8 hB8 hU8
        refine ⟨⟨fun _ => (hC.2.1 h0).setF hB8 hU8, fun e => absurd e (by simp [yN]), hC.2.2.1.keep (hU8.block _ hC.2.2.1.lt N62.out), hC.2.2.2.keep (hU8.block _ hC.2.2.2.lt NI2.out)⟩, fun h => absurd rfl h, ?_⟩
        intro j t _ hs
        match j, hs with
        | 0, hs => exact hs
        | 1, hs => exact hs
        | 2, hs => exact hs
        | 3, hs => exact hs
        | 4, hs => exact hs
        | 5, hs => exact hs
        | 6, hs => exact hs
        | 7, hs => exact hs
        | _ + 8, _ => trivial
       | n + 8, _, ho, _, _, _, _, _ => simp at ho
      intro V w9 hC9 hS
      simp only [yL, wJ]
      simp only [Act.put, qU]
      clear hS
      have BZ := zZ (hC9.1 rfl)
      clear hC9
      go_wp2
      have r0 : w9.cell? ⟨w.heap.size + 1, 0, none⟩ = some (.string ⟨#[]⟩) := BZ.out.g.cell rfl
      have r1 : w9.cell? ⟨w.heap.size + 1, 1, none⟩ = some (.slice none 0 0) := BZ.out.g.cell rfl
      have r2 : w9.cell? ⟨w.heap.size + 1, 2, none⟩ = some (.slice none 0 0) := BZ.out.g.cell rfl
      have r3 : w9.cell? ⟨w.heap.size + 1, 3, none⟩ = some (.slice none 0 0) := BZ.out.g.cell rfl
      have r4 : w9.cell? ⟨w.heap.size + 1, 4, none⟩ = some (.slice none 0 0) := BZ.out.g.cell rfl
      have u0 : w9.cell? ⟨w.heap.size + 2, 0, none⟩ = some (.int .i64 fc) := BZ.out.f.cell rfl
      have u1 : w9.cell? ⟨w.heap.size + 2, 1, none⟩ = some (.int .i64 pl) := BZ.out.f.cell rfl
      refine bodyPost_ret (v := .tuple #[.agg #[.string ⟨#[]⟩, .slice none 0 0, .slice none 0 0, .slice none 0 0, .slice none 0 0], .agg #[.int .i64 fc, .int .i64 pl]]) (by simp [results, Try.results7, go_sem, r0, r1, r2, r3, r4, u0, u1]) rfl ?_
      exact BH.out _ _ ⟨rfl, BZ.out.bel⟩
     have hmb : ((m : Int) == (fnr : Int)) = false := by simp; omega
     rw [if_neg hmn] at HP
     clear hkd hmn
     go_wp2
     go_roundg (n - (k + 1))
     case measure => omega
     case rel => exact ⟨k + 1, m + 1, by omega, by omega, rfl, by go_num, by go_num, HP.out, BX4.out, F4.out⟩
    have hkb : (ki != (fk : Int)) = true := by simpa using hkd
    rw [if_neg hkd] at HP
    clear hkd
    go_wp2
    go_roundg (n - (k + 1))
    case measure => omega
    case rel => exact ⟨k + 1, m, by omega, by omega, rfl, by go_num, rfl, HP.out, BX4.out, F4.out⟩
   have hki : ¬ (k : Int) < (n : Int) := by omega
   have e9 : at9 = 0 := by
    rw [<- HP.out, List.drop_of_length_le (by rw [List.length_map, HL.out]; omega)]
    rfl
   rw [e9] at BH
   clear e9 HP
   go_upto_region 24 with fail
   clear y1
   refine zB [4, 5] (fun d i u z => match i with
    | 0 => z = .agg #[.string ⟨#[]⟩, .slice none 0 0, .slice none 0 0, .slice none 0 0, .slice none 0 0]
    | 1 => z = .pointer (some ⟨b6, 0, none⟩)
    | 2 => z = .int .i64 fc
    | 3 => z = .agg #[.int .i64 fc, .int .i64 0]
    | 4 => True
    | 5 => True
    | _ => True) (fun d u => (d 5 = true -> Bx w #[.string (zW nm), .slice a n c] #[.string ⟨#[]⟩, .slice none 0 0, .slice none 0 0, .slice none 0 0, .slice none 0 0] #[.int .i64 fc, .int .i64 0] u) /\ (d 5 = false -> Bx w #[.string (zW nm), .slice a n c] #[.string ⟨#[]⟩, .slice none 0 0, .slice none 0 0, .slice none 0 0, .slice none 0 0] #[.int .i64 0, .int .i64 0] u) /\ zN 57 b6 u #[.int .i64 fc, .int .u8 (fk : Int), .int .i64 (fnr : Int), .int .i64 (fs : Int)]) (by kernel_rfl) (by kernel_rfl) (by kernel_rfl) ?_ ?_ ?_ ?_ ?_ ?_ (by kernel_rfl)
   ·intro d i w v w' h hb
    match i, h with
    | 0, h => exact h
    | 1, h => exact h
    | 2, h => exact h
    | 3, h => exact h
    | 4, h => exact h
    | 5, h => exact h
    | _ + 6, _ => trivial
   ·intro d u u' h hb
    exact ⟨fun e => (h.1 e).below hb, fun e => (h.2.1 e).below hb, h.2.2.below hb⟩
   ·exact ⟨fun e => absurd e (by decide), fun _ => BX.out, FX.out⟩
   ·intro d i o ρ w' hm ho hf hg hC hcs hfs hfr zY
    match i, hm, ho, hf, hg, hfr, zY with
    | 0, _, ho, hf, hg, hfr, zY =>
     simp only [qS] at ho
     subst ho
     refine ⟨fun _ => ?_, qF⟩
     simp [go_sem]
     exact qB
    | 1, _, ho, hf, hg, hfr, zY =>
     simp only [qS] at ho
     subst ho
     refine ⟨fun _ => ?_, qF⟩
     have ts : ρ (.tmp 6) = .pointer (some ⟨b6, 0, none⟩) := hfr 6 (by kernel_rfl)
     simp [go_sem, ts]
     exact qB
    | 2, _, ho, hf, hg, hfr, zY =>
     simp only [qS] at ho
     subst ho
     refine ⟨fun _ => ?_, qF⟩
     have cc : w'.cell? ⟨b6, 0, none⟩ = some (.int .i64 fc) := hC.2.2.cell rfl
     have d0 : ρ (.tmp 100) = .pointer (some ⟨b6, 0, none⟩) := zY 1 100 (by kernel_rfl) (by kernel_rfl)
     simp [go_sem, d0, cc]
     exact qB
    | 3, _, ho, hf, hg, hfr, zY =>
     simp only [qS] at ho
     subst ho
     refine ⟨fun _ => ?_, qF⟩
     have d0 : ρ (.tmp 101) = .int .i64 fc := zY 2 101 (by kernel_rfl) (by kernel_rfl)
     simp [go_sem, d0]
     exact qB
    | 4, hm, _, _, _, _, _ => exact qD hm
    | 5, hm, _, _, _, _, _ => exact qD hm
    | n + 6, _, ho, _, _, _, _ => simp at ho
   ·intro d i o ρ w' hm ho h0 hf hg hC hcs hfs hfr zY
    match i, hm, ho, h0, hf, hg, hfr, zY with
    | 0, hm, _, _, _, _, _, _ => exact qD hm
    | 1, hm, _, _, _, _, _, _ => exact qD hm
    | 2, hm, _, _, _, _, _, _ => exact qD hm
    | 3, hm, _, _, _, _, _, _ => exact qD hm
    | 4, _, ho, h0, hf, hg, hfr, zY =>
     simp only [qS] at ho
     subst ho
     refine ⟨rfl, ?_⟩
     have t0 : ρ (.tmp 99) = .agg #[.string ⟨#[]⟩, .slice none 0 0, .slice none 0 0, .slice none 0 0, .slice none 0 0] := zY 0 99 (by kernel_rfl) (by kernel_rfl)
     have tp : ρ (.tmp 2) = .pointer (some ⟨w.heap.size + 1, 0, none⟩) := hfr 2 (by kernel_rfl)
     refine yP 31 (.tmp 2) (.tmp 99) rfl (w.heap.size + 1) 31 _ _ tp t0 (hC.2.1 (hf 5 (by decide) (by kernel_rfl))).g qZ rfl rfl ?_
     intro w8 hB8 hU8
     refine ⟨⟨fun e => absurd ((hf 5 (by decide) (by kernel_rfl)).symm.trans (by simpa [yN] using e)) (by decide), fun _ => (hC.2.1 (hf 5 (by decide) (by kernel_rfl))).setG hB8 hU8, hC.2.2.keep (hU8.block _ hC.2.2.lt N61.out)⟩, fun h => absurd rfl h, ?_⟩
     intro j t _ hs
     match j, hs with
     | 0, hs => exact hs
     | 1, hs => exact hs
     | 2, hs => exact hs
     | 3, hs => exact hs
     | 4, hs => exact hs
     | 5, hs => exact hs
     | _ + 6, _ => trivial
    | 5, _, ho, h0, hf, hg, hfr, zY =>
     simp only [qS] at ho
     subst ho
     refine ⟨rfl, ?_⟩
     have t0 : ρ (.tmp 102) = .agg #[.int .i64 fc, .int .i64 0] := zY 3 102 (by kernel_rfl) (by kernel_rfl)
     have tp : ρ (.tmp 3) = .pointer (some ⟨w.heap.size + 2, 0, none⟩) := hfr 3 (by kernel_rfl)
     refine yP 34 (.tmp 3) (.tmp 102) rfl (w.heap.size + 2) 34 _ _ tp t0 (hC.2.1 h0).f kY rfl rfl ?_
     intro w8 hB8 hU8
     refine ⟨⟨fun _ => (hC.2.1 h0).setF hB8 hU8, fun e => absurd e (by simp [yN]), hC.2.2.keep (hU8.block _ hC.2.2.lt N62.out)⟩, fun h => absurd rfl h, ?_⟩
     intro j t _ hs
     match j, hs with
     | 0, hs => exact hs
     | 1, hs => exact hs
     | 2, hs => exact hs
     | 3, hs => exact hs
     | 4, hs => exact hs
     | 5, hs => exact hs
     | _ + 6, _ => trivial
    | n + 6, _, ho, _, _, _, _, _ => simp at ho
   intro V w9 hC9 hS
   simp only [yL, wJ]
   simp only [Act.put, qU]
   clear hS
   have BZ := zZ (hC9.1 rfl)
   clear hC9
   go_wp2
   have r0 : w9.cell? ⟨w.heap.size + 1, 0, none⟩ = some (.string ⟨#[]⟩) := BZ.out.g.cell rfl
   have r1 : w9.cell? ⟨w.heap.size + 1, 1, none⟩ = some (.slice none 0 0) := BZ.out.g.cell rfl
   have r2 : w9.cell? ⟨w.heap.size + 1, 2, none⟩ = some (.slice none 0 0) := BZ.out.g.cell rfl
   have r3 : w9.cell? ⟨w.heap.size + 1, 3, none⟩ = some (.slice none 0 0) := BZ.out.g.cell rfl
   have r4 : w9.cell? ⟨w.heap.size + 1, 4, none⟩ = some (.slice none 0 0) := BZ.out.g.cell rfl
   have u0 : w9.cell? ⟨w.heap.size + 2, 0, none⟩ = some (.int .i64 fc) := BZ.out.f.cell rfl
   have u1 : w9.cell? ⟨w.heap.size + 2, 1, none⟩ = some (.int .i64 0) := BZ.out.f.cell rfl
   refine bodyPost_ret (v := .tuple #[.agg #[.string ⟨#[]⟩, .slice none 0 0, .slice none 0 0, .slice none 0 0, .slice none 0 0], .agg #[.int .i64 fc, .int .i64 0]]) (by simp [results, Try.results7, go_sem, r0, r1, r2, r3, r4, u0, u1]) rfl ?_
   exact BH.out _ _ ⟨rfl, BZ.out.bel⟩
def bG (nm : List UInt8) (K : List yO) : GG := if (yI nm K).2.1 = 0 then yT nm K else YE
theorem TE (nm : List UInt8) (K : List yO) : (bG nm K).A.length <= 32 /\ (bG nm K).E.length <= 96 /\ (bG nm K).ins.length <= 16 /\ (bG nm K).outs.length <= 16 := by
 unfold bG
 by_cases h : (yI nm K).2.1 = 0
 ·rw [if_pos h]
  have q := rJ ((uR _).1 (pY h).2).head
  omega
 rw [if_neg h]
 exact ⟨Nat.zero_le _, Nat.zero_le _, Nat.zero_le _, Nat.zero_le _⟩
structure BO (B : Nat) (w : World) (G : GG) (x1 x2 x3 x4 : Option Addr) (d1 d2 d3 d4 : Nat) (As : List (GA × Value)) (Es : List (GE × Value)) : Prop where
 own : sQ B w (.slice x1 As.length d1) (.slice x2 Es.length d2) (.slice x3 G.ins.length d3) (.slice x4 G.outs.length d4) As Es G.ins G.outs
 a : As.map Prod.fst = G.A
 e : Es.map Prod.fst = G.E
 na : ∀ p ∈ As, p.1.tag <= 255 /\ xL p.1.params
 ne : ∀ p ∈ Es, xL p.1.start
theorem BO.la {B w G x1 x2 x3 x4 d1 d2 d3 d4 As Es} (h : BO B w G x1 x2 x3 x4 d1 d2 d3 d4 As Es) : As.length = G.A.length := by have e := congrArg List.length h.a; rw [List.length_map] at e; exact e
theorem BO.le {B w G x1 x2 x3 x4 d1 d2 d3 d4 As Es} (h : BO B w G x1 x2 x3 x4 d1 d2 d3 d4 As Es) : Es.length = G.E.length := by have e := congrArg List.length h.e; rw [List.length_map] at e; exact e
theorem BO.later {B w G x1 x2 x3 x4 d1 d2 d3 d4 As Es} {w' : World} (h : BO B w G x1 x2 x3 x4 d1 d2 d3 d4 As Es) (hb : Below w.heap.size w w') : BO B w' G x1 x2 x3 x4 d1 d2 d3 d4 As Es :=
 ⟨h.own.keep fun k _ hk => hb.block k hk, h.a, h.e, h.na, h.ne⟩
theorem BO.gr {B w G x1 x2 x3 x4 d1 d2 d3 d4 As Es} (h : BO B w G x1 x2 x3 x4 d1 d2 d3 d4 As Es) (l1 : G.A.length <= 32) (l2 : G.E.length <= 96) (l3 : G.ins.length <= 16) (l4 : G.outs.length <= 16) : sH w x1 x2 x3 x4 G := by
 have e1 := h.la
 have e2 := h.le
 have q := h.own.gr (nm := G.name) h.na h.ne (by omega) (by omega) (by omega) (by omega)
 rw [h.a, h.e] at q
 exact q
def TD (w : World) (G : GG) (cd pl : Int) (e : Ending) (w' : World) : Prop := ∃ x1 x2 x3 x4 d1 d2 d3 d4 As Es, e = .returned (.tuple #[.agg #[.string (zW G.name), .slice x1 G.A.length d1, .slice x2 G.E.length d2, .slice x3 G.ins.length d3, .slice x4 G.outs.length d4], .agg #[.int .i64 cd, .int .i64 pl]]) /\ BO w.heap.size w' G x1 x2 x3 x4 d1 d2 d3 d4 As Es /\ Below w.heap.size w w'
theorem YL {B : Nat} {w : World} : sQ B w (.slice none 0 0) (.slice none 0 0) (.slice none 0 0) (.slice none 0 0) [] [] [] [] :=
 ⟨⟨World.ownsRow_nil _ _ _ _, World.ownsRow_nil _ _ _ _, World.ownsRow_nil _ _ _ _, World.ownsRow_nil _ _ _ _, NB.nilL _, NB.nilL _, NB.nilL _, NB.nilL _, NB.nilL _, NB.nilL _⟩, fun p hp => by (cases hp), fun p hp => by (cases hp), List.Pairwise.nil, fun q hq => by (cases hq)⟩
theorem VK (nm : List UInt8) (a : Option Addr) (n c : Nat) (L : List (yO × Value)) (w : World) (hn : L.length = n) (h : nS w a L) (hO : bZ w L) (hl : n <= 2000000) {K : List yO} (hK : L.map Prod.fst = K) {cd pl : Int} (hB : (yI nm K).2 = (cd, pl)) :
 Calls Try.prog 6 #[.agg #[.string (zW nm), .slice a n c]] w (TD w (bG nm K) cd pl) := by
 refine (jX nm a n c L w hn h hO hl).mono fun e w' he => ?_
 unfold oJ at he
 rw [hK] at he
 by_cases h0 : (yI nm K).2.1 = 0
 ·rw [if_pos h0] at he
  obtain ⟨v1, v2, v3, v4, As, Es, rfl, hw, hA, hE, nA, nE, hb⟩ := he
  obtain ⟨e1, -⟩ := pY h0
  have eg : bG nm K = yT nm K := if_pos h0
  rw [e1] at hw hA hE hB
  obtain ⟨z1, f1, rfl⟩ := zC hw.rw.r1
  obtain ⟨z2, f2, rfl⟩ := zC hw.rw.r2
  obtain ⟨z3, f3, rfl⟩ := zC hw.rw.r3
  obtain ⟨z4, f4, rfl⟩ := zC hw.rw.r4
  have hO : BO w.heap.size w' (bG nm K) z1 z2 z3 z4 f1 f2 f3 f4 As Es := by rw [eg]; exact ⟨hw, hA, hE, nA, nE⟩
  refine ⟨z1, z2, z3, z4, f1, f2, f3, f4, As, Es, ?_, hO, hb⟩
  rw [<- hO.la, <- hO.le, eg]
  cases hB
  rfl
 rw [if_neg h0] at he
 obtain ⟨rfl, hb⟩ := he
 have eg : bG nm K = YE := if_neg h0
 refine ⟨none, none, none, none, 0, 0, 0, 0, [], [], ?_, ?_, hb⟩
 ·rw [eg, hB]
  rfl
 rw [eg]
 exact ⟨YL, rfl, rfl, fun p hp => by (cases hp), fun p hp => by (cases hp)⟩
def TC (w : World) (G : GG) (cd pl : Int) (e : Ending) (w' : World) : Prop := ∃ x1 x2 x3 x4 d1 d2 d3 d4, e = .returned (.tuple #[.agg #[.string (zW G.name), .slice x1 G.A.length d1, .slice x2 G.E.length d2, .slice x3 G.ins.length d3, .slice x4 G.outs.length d4], .agg #[.int .i64 cd, .int .i64 pl]]) /\ sH w' x1 x2 x3 x4 G /\ Below w.heap.size w w'
theorem VJ {w : World} : sH w none none none none YE := ⟨.inl rfl, .inl rfl, .inl rfl, .inl rfl, Nat.zero_le _, Nat.zero_le _, Nat.zero_le _, Nat.zero_le _⟩
theorem YK (nm : List UInt8) (a : Option Addr) (n c : Nat) (L : List (yO × Value)) (w : World) (hn : L.length = n) (h : nS w a L) (hO : bZ w L) (hl : n <= 2000000) {cd pl : Int} (hB : (yI nm (L.map Prod.fst)).2 = (cd, pl)) :
 Calls Try.prog 7 #[.agg #[.string (zW nm), .slice a n c]] w (TC w (bG nm (L.map Prod.fst)) cd pl) := by
 refine (eH nm a n c L w hn h hO hl).mono fun e w' he => ?_
 unfold lK at he
 by_cases h0 : (yI nm (L.map Prod.fst)).2.1 = 0
 ·rw [if_pos h0] at he
  obtain ⟨e1, -⟩ := pY h0
  have eg : bG nm (L.map Prod.fst) = yT nm (L.map Prod.fst) := if_pos h0
  rw [e1] at hB
  obtain ⟨z1, z2, z3, z4, f1, f2, f3, f4, rfl, hg, hb⟩ := he
  refine ⟨z1, z2, z3, z4, f1, f2, f3, f4, ?_, by rw [eg]; exact hg, hb⟩
  rw [eg]
  cases hB
  rfl
 rw [if_neg h0] at he
 obtain ⟨rfl, hb⟩ := he
 have eg : bG nm (L.map Prod.fst) = YE := if_neg h0
 refine ⟨none, none, none, none, 0, 0, 0, 0, ?_, by rw [eg]; exact VJ, hb⟩
 rw [eg, hB]
 rfl
theorem BO.short {B w G x1 x2 x3 x4 d1 d2 d3 d4 As Es} (h : BO B w G x1 x2 x3 x4 d1 d2 d3 d4 As Es) : ∀ p ∈ oY As Es, p.1.nums.length <= 17592186043904 := by
 intro p hp
 rcases List.mem_append.1 hp with hp | hp
 ·obtain ⟨q, hq, rfl⟩ := List.mem_map.1 hp
  have := (h.na q hq).2.2
  show q.1.params.length <= _
  omega
 obtain ⟨q, hq, rfl⟩ := List.mem_map.1 hp
 have := (h.ne q hq).2
 show q.1.start.length <= _
 omega
theorem fT {B1 B2 : Nat} {u1 U : World} {G : GG} {x1 x2 x3 x4 z1 z2 z3 z4 : Option Addr} {d1 d2 d3 d4 f1 f2 f3 f4 : Nat} {As Bs : List (GA × Value)} {Es Fs : List (GE × Value)} (h1 : BO B1 u1 G x1 x2 x3 x4 d1 d2 d3 d4 As Es) (b1 : Below u1.heap.size u1 U) (h2 : BO B2 U G z1 z2 z3 z4 f1 f2 f3 f4 Bs Fs) (hB : B1 <= u1.heap.size) (hb : u1.heap.size <= B2) (hU : B2 <= U.heap.size) (l1 : G.A.length <= 32) (l2 : G.E.length <= 96) (l3 : G.ins.length <= 16) (l4 : G.outs.length <= 16) :
 Calls Try.prog 11 #[.agg #[.string (zW G.name), .slice x1 G.A.length d1, .slice x2 G.E.length d2, .slice x3 G.ins.length d3, .slice x4 G.outs.length d4], .agg #[.string (zW G.name), .slice z1 G.A.length f1, .slice z2 G.E.length f2, .slice z3 G.ins.length f3, .slice z4 G.outs.length f4]] U fun e w' => e = .returned (.bool true) /\ Below B1 U w' := by
 have e1 := h1.la
 have e2 := h1.le
 have e3 := h2.la
 have e4 := h2.le
 have q := nP B1 B2 (zW G.name) (zW G.name) x1 x2 x3 x4 z1 z2 z3 z4 d1 d2 d3 d4 f1 f2 f3 f4 As Bs Es Fs G.ins G.outs G.ins G.outs U (h1.later b1).own h2.own (by omega) hU (fun k e => by
  rcases e with e | e | e | e
  ·have := zR h1.own.rw.r1 k e; omega
  ·have := zR h1.own.rw.r2 k e; omega
  ·have := zR h1.own.rw.r3 k e; omega
  ·have := zR h1.own.rw.r4 k e; omega) (fun p hp k e => by have := zR (nB h1.own p hp) k e; omega) (fun p hp => by
  rcases List.mem_append.1 hp with hp | hp
  ·exact h1.short p hp
  exact h2.short p hp) (by omega) (by omega) (by omega) (by omega) (by omega) (by omega) (by omega) (by omega)
 rw [e1, e2, e3, e4] at q
 exact q
end Go.Proofs.Ytgoconkleicmkaa
