/- Texts of one chain, laid one behind the other. -/
import Derived.Test.YthgblljokonejaaGreatDoorPartSketchPrints2
/- A sketch that comes in: whether it is heavy. -/
namespace Go.Proofs.YthgblljokonejaaGreatDoor
open Go.ChangeShapes Go.WideShapes Go.ChangeAt Go.RowKit

/-- What a walk is told of a sketch's items that came in. -/
structure ArgS (w : World) (a : Option Addr) (n : Nat) (L : List (Itm × Value)) : Prop where
  size : L.length = n
  lies : ItR w a L
  reach : n ≤ 140737488351232
  nums : ∀ p ∈ L, p.1.nums.length ≤ 140737488351232
  shp : ∀ p ∈ L, ∃ b d, p.2 = .slice b p.1.nums.length d ∧ (b = none → p.1.nums.length = 0 ∧ d = 0) ∧ p.1.nums.length ≤ d
  fits : ∀ p ∈ L, (-9223372036854775808 ≤ p.1.frm.port ∧ p.1.frm.port ≤ 9223372036854775807) ∧ (-9223372036854775808 ≤ p.1.to.port ∧ p.1.to.port ≤ 9223372036854775807) ∧ ∀ x ∈ p.1.nums, -9223372036854775808 ≤ x ∧ x ≤ 9223372036854775807
theorem ArgS.below {w w' a n L} (h : ArgS w a n L) (hb : Below w.heap.size w w') : ArgS w' a n L := ⟨h.size, h.lies.below hb, h.reach, h.nums, h.shp, h.fits⟩
def HeavyEnd (w : World) (n : Nat) (L : List (Itm × Value)) (e : Ending) (w' : World) : Prop := ∃ b, e = .returned (.bool b) ∧ (b = false → n ≤ 1048576 ∧ ∀ p ∈ L, p.1.nums.length ≤ 1048576) ∧ Below w.heap.size w w'
set_option maxRecDepth 100000 in
set_option maxHeartbeats 4000000 in
theorem heavy_any (nm : List UInt8) (a : Option Addr) (n c : Nat) (L : List (Itm × Value)) (w : World) (h : ArgS w a n L) :
    Calls Tryz.prog 10 #[.agg #[.string (str nm), .slice a n c]] w (HeavyEnd w n L) := by
  have hb0 := (Below.refl w.heap.size w).alloc (Nat.le_refl _) (.cells #[.string (str nm), .slice a n c] 24)
  have HB0 := hidden hb0
  have HK0 := hidden (blk_new 24 w #[.string (str nm), .slice a n c])
  have HA0 := hidden (h.below hb0)
  have hn := h.size
  have hr := h.reach
  have hnI : (n : Int) ≤ 140737488351232 := by omega
  clear h hb0
  go_enter Tryz.func10, Tryz.ntmps10
  go_wp2
  go_loopg [3, 4] n (fun gk sv v wr => ∃ (k s : Nat), k ≤ n ∧ gk = n - k ∧ v = .int .i64 (k : Int) ∧ sv = .int .i64 (s : Int) ∧ n ≤ s ∧ s ≤ 562949953421312 ∧ (∀ j, j < k → (nthI L j).1.nums.length ≤ s) ∧ Below w.heap.size w wr ∧ Blk 24 w.heap.size wr #[.string (str nm), .slice a n c] ∧ ArgS wr a n L)
  case atStart => exact ⟨0, n, Nat.zero_le _, rfl, rfl, rfl, Nat.le_refl _, by omega, fun j hj => by omega, HB0.out, HK0.out, HA0.out⟩
  case round =>
    clear HB0 HK0 HA0
    obtain ⟨k, s, hk, rfl, rfl, rfl, hns, hs, hall, hbe, hbk, hA⟩ := hrel
    have HBE := hidden hbe
    have HBK := hidden hbk
    have HA := hidden hA
    have HALL := hidden hall
    have y1 : wr.cell? ⟨w.heap.size, 1, none⟩ = some (.slice a n c) := hbk.cell (k := 1) rfl
    clear hbe hbk hA hall
    have hsI : (s : Int) ≤ 562949953421312 := by omega
    by_cases hlt : k < n ∧ s ≤ 1048576
    · obtain ⟨hlt, hs2⟩ := hlt
      have hki : (k : Int) < (n : Int) := by omega
      have hsj : (s : Int) ≤ 1048576 := by omega
      rcases HA.out.lies.lie with e | ⟨g, off, rfl, hc⟩
      · rw [e] at hn; simp at hn; omega
      have c3 := (hc k (by omega)).c3
      obtain ⟨a1, k1, e2, -⟩ := HA.out.lies.nums _ (nthI_mem (L := L) (k := k) (by omega))
      rw [e2] at c3
      have hm := HA.out.nums _ (nthI_mem (L := L) (k := k) (by omega))
      have HAL2 : Hid (∀ j, j < k + 1 → (nthI L j).1.nums.length ≤ s + (nthI L k).1.nums.length) := fun j hj => by
        by_cases e : j < k
        · have := HALL.out j e; omega
        · have : j = k := by omega
          subst this; omega
      clear hc e2
      generalize hm2 : (nthI L k).1.nums.length = m at *
      have hmI : (m : Int) ≤ 140737488351232 := by omega
      have hs0 : (0 : Int) ≤ (s : Int) := by omega
      have hm0 : (0 : Int) ≤ (m : Int) := by omega
      go_wp2
      go_roundg (n - (k + 1))
      case measure => omega
      case rel => exact ⟨k + 1, s + m, by omega, rfl, by go_num, by go_num, by omega, by omega, HAL2.out, HBE.out, HBK.out, HA.out⟩
    · by_cases hkn : k < n
      · have hki : (k : Int) < (n : Int) := by omega
        have hsj : ¬ ((s : Int) ≤ 1048576) := by omega
        have hsk : (s : Int) > 1048576 := by omega
        go_wp2
        go_ret
        exact ⟨true, by first | rfl | (simp; omega), (fun e => by cases e), HBE.out⟩
      · have ek : k = n := by omega
        subst ek
        have hki : ¬ ((k : Int) < (k : Int)) := by omega
        by_cases hs3 : s ≤ 1048576
        · have hsk : ¬ ((s : Int) > 1048576) := by omega
          go_wp2
          go_ret
          refine ⟨false, by first | rfl | (simp; omega), fun _ => ⟨by omega, fun p hp => ?_⟩, HBE.out⟩
          obtain ⟨j, hj, rfl⟩ := List.mem_iff_getElem.1 hp
          have := HALL.out j (by omega)
          have e : nthI L j = L[j] := by unfold nthI; rw [List.getD_eq_getElem?_getD, List.getElem?_eq_getElem hj]; rfl
          rw [e] at this
          omega
        · have hsk : (s : Int) > 1048576 := by omega
          go_wp2
          go_ret
          exact ⟨true, by first | rfl | (simp; omega), (fun e => by cases e), HBE.out⟩
end Go.Proofs.YthgblljokonejaaGreatDoor
