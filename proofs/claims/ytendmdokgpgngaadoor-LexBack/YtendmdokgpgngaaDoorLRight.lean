/- The statements' right: may a token stand in a text? -/
import Derived.Test.YtendmdokgpgngaaDoorLDig
namespace Go.Proofs.YtendmdokgpgngaaDoor
open Go.ChangeShapes Go.WideShapes Go.ChangeAt Go.RowKit

def rightB (t : Tok) : Bool := if t.sort = 1 then decide (t.num = 0) && nameB t.text else if t.sort = 2 then decide (t.text = []) else if t.sort = 3 then decide (t.num = 0) && markT t.text else false
def TokV (so : Int) (tx : List UInt8) (nm pl : Int) : Value := .agg #[.int .u8 so, .string (str tx), .int .i64 nm, .int .i64 pl]
def RightEnd (b : Bool) (w : World) (e : Ending) (w' : World) : Prop := e = .returned (.bool b) ∧ Below w.heap.size w w'

set_option maxHeartbeats 1000000 in
theorem right_w0 (tx : List UInt8) (nm pl : Int) (w : World) (hn : nm ≠ 0) : Calls Tryd.prog 16 #[.agg #[.int .u8 1, .string (str tx), .int .i64 nm, .int .i64 pl]] w (RightEnd false w) := by
  have n0 : ¬ (nm = 0) := hn
  have n1 : decide (nm = 0) = false := decide_eq_false hn
  go_enter Tryd.func16, Tryd.ntmps16
  go_wp2
  go_ret
  exact ⟨rfl, (Below.refl _ _).alloc (Nat.le_refl _) _⟩

set_option maxHeartbeats 1000000 in
theorem right_w1 (tx : List UInt8) (pl : Int) (w : World) : Calls Tryd.prog 16 #[.agg #[.int .u8 1, .string (str tx), .int .i64 0, .int .i64 pl]] w (RightEnd (nameB tx) w) := by
  have HN := hidden (rname_any tx)
  generalize nameB tx = x at *
  go_enter Tryd.func16, Tryd.ntmps16
  go_wp2_with (go_at_call 15; (with_reducible refine (HN.out _).mono ?_); rintro e w' ⟨rfl, rfl⟩)
  go_ret
  exact ⟨rfl, (Below.refl _ _).alloc (Nat.le_refl _) _⟩

set_option maxHeartbeats 1000000 in
theorem right_n (tx : List UInt8) (nm pl : Int) (w : World) : Calls Tryd.prog 16 #[.agg #[.int .u8 2, .string (str tx), .int .i64 nm, .int .i64 pl]] w (RightEnd (decide (tx = [])) w) := by
  have e1 := str_list tx
  have e2 : (ByteArray.mk #[]).toList = ([] : List UInt8) := str_list []
  by_cases h : tx = []
  · subst h
    go_enter Tryd.func16, Tryd.ntmps16
    go_wp2
    go_ret
    exact ⟨rfl, (Below.refl _ _).alloc (Nat.le_refl _) _⟩
  · have h1 : (tx == []) = false := by simpa using h
    rw [decide_eq_false h]
    go_enter Tryd.func16, Tryd.ntmps16
    go_wp2
    go_ret
    exact ⟨by simp, (Below.refl _ _).alloc (Nat.le_refl _) _⟩

set_option maxHeartbeats 1000000 in
theorem right_m0 (tx : List UInt8) (nm pl : Int) (w : World) (hn : nm ≠ 0) : Calls Tryd.prog 16 #[.agg #[.int .u8 3, .string (str tx), .int .i64 nm, .int .i64 pl]] w (RightEnd false w) := by
  have n0 : ¬ (nm = 0) := hn
  have n1 : decide (nm = 0) = false := decide_eq_false hn
  go_enter Tryd.func16, Tryd.ntmps16
  go_wp2
  go_ret
  exact ⟨rfl, (Below.refl _ _).alloc (Nat.le_refl _) _⟩

set_option maxHeartbeats 1000000 in
theorem right_m1 (pl : Int) (w : World) : Calls Tryd.prog 16 #[.agg #[.int .u8 3, .string (str [123]), .int .i64 0, .int .i64 pl]] w (RightEnd true w) := by
  have e1 := str_list [123]
  have l0 : (ByteArray.mk #[123]).toList = ([123] : List UInt8) := str_list [123]
  have l1 : (ByteArray.mk #[125]).toList = ([125] : List UInt8) := str_list [125]
  have l2 : (ByteArray.mk #[61]).toList = ([61] : List UInt8) := str_list [61]
  have l3 : (ByteArray.mk #[59]).toList = ([59] : List UInt8) := str_list [59]
  have l4 : (ByteArray.mk #[46]).toList = ([46] : List UInt8) := str_list [46]
  have l5 : (ByteArray.mk #[45, 62]).toList = ([45, 62] : List UInt8) := str_list [45, 62]
  go_enter Tryd.func16, Tryd.ntmps16
  go_wp2
  go_ret
  exact ⟨rfl, (Below.refl _ _).alloc (Nat.le_refl _) _⟩

set_option maxHeartbeats 1000000 in
theorem right_m2 (pl : Int) (w : World) : Calls Tryd.prog 16 #[.agg #[.int .u8 3, .string (str [125]), .int .i64 0, .int .i64 pl]] w (RightEnd true w) := by
  have e1 := str_list [125]
  have l0 : (ByteArray.mk #[123]).toList = ([123] : List UInt8) := str_list [123]
  have l1 : (ByteArray.mk #[125]).toList = ([125] : List UInt8) := str_list [125]
  have l2 : (ByteArray.mk #[61]).toList = ([61] : List UInt8) := str_list [61]
  have l3 : (ByteArray.mk #[59]).toList = ([59] : List UInt8) := str_list [59]
  have l4 : (ByteArray.mk #[46]).toList = ([46] : List UInt8) := str_list [46]
  have l5 : (ByteArray.mk #[45, 62]).toList = ([45, 62] : List UInt8) := str_list [45, 62]
  go_enter Tryd.func16, Tryd.ntmps16
  go_wp2
  go_ret
  exact ⟨rfl, (Below.refl _ _).alloc (Nat.le_refl _) _⟩

set_option maxHeartbeats 1000000 in
theorem right_m3 (pl : Int) (w : World) : Calls Tryd.prog 16 #[.agg #[.int .u8 3, .string (str [61]), .int .i64 0, .int .i64 pl]] w (RightEnd true w) := by
  have e1 := str_list [61]
  have l0 : (ByteArray.mk #[123]).toList = ([123] : List UInt8) := str_list [123]
  have l1 : (ByteArray.mk #[125]).toList = ([125] : List UInt8) := str_list [125]
  have l2 : (ByteArray.mk #[61]).toList = ([61] : List UInt8) := str_list [61]
  have l3 : (ByteArray.mk #[59]).toList = ([59] : List UInt8) := str_list [59]
  have l4 : (ByteArray.mk #[46]).toList = ([46] : List UInt8) := str_list [46]
  have l5 : (ByteArray.mk #[45, 62]).toList = ([45, 62] : List UInt8) := str_list [45, 62]
  go_enter Tryd.func16, Tryd.ntmps16
  go_wp2
  go_ret
  exact ⟨rfl, (Below.refl _ _).alloc (Nat.le_refl _) _⟩

set_option maxHeartbeats 1000000 in
theorem right_m4 (pl : Int) (w : World) : Calls Tryd.prog 16 #[.agg #[.int .u8 3, .string (str [59]), .int .i64 0, .int .i64 pl]] w (RightEnd true w) := by
  have e1 := str_list [59]
  have l0 : (ByteArray.mk #[123]).toList = ([123] : List UInt8) := str_list [123]
  have l1 : (ByteArray.mk #[125]).toList = ([125] : List UInt8) := str_list [125]
  have l2 : (ByteArray.mk #[61]).toList = ([61] : List UInt8) := str_list [61]
  have l3 : (ByteArray.mk #[59]).toList = ([59] : List UInt8) := str_list [59]
  have l4 : (ByteArray.mk #[46]).toList = ([46] : List UInt8) := str_list [46]
  have l5 : (ByteArray.mk #[45, 62]).toList = ([45, 62] : List UInt8) := str_list [45, 62]
  go_enter Tryd.func16, Tryd.ntmps16
  go_wp2
  go_ret
  exact ⟨rfl, (Below.refl _ _).alloc (Nat.le_refl _) _⟩

set_option maxHeartbeats 1000000 in
theorem right_m5 (pl : Int) (w : World) : Calls Tryd.prog 16 #[.agg #[.int .u8 3, .string (str [46]), .int .i64 0, .int .i64 pl]] w (RightEnd true w) := by
  have e1 := str_list [46]
  have l0 : (ByteArray.mk #[123]).toList = ([123] : List UInt8) := str_list [123]
  have l1 : (ByteArray.mk #[125]).toList = ([125] : List UInt8) := str_list [125]
  have l2 : (ByteArray.mk #[61]).toList = ([61] : List UInt8) := str_list [61]
  have l3 : (ByteArray.mk #[59]).toList = ([59] : List UInt8) := str_list [59]
  have l4 : (ByteArray.mk #[46]).toList = ([46] : List UInt8) := str_list [46]
  have l5 : (ByteArray.mk #[45, 62]).toList = ([45, 62] : List UInt8) := str_list [45, 62]
  go_enter Tryd.func16, Tryd.ntmps16
  go_wp2
  go_ret
  exact ⟨rfl, (Below.refl _ _).alloc (Nat.le_refl _) _⟩

set_option maxHeartbeats 1000000 in
theorem right_m6 (pl : Int) (w : World) : Calls Tryd.prog 16 #[.agg #[.int .u8 3, .string (str [45, 62]), .int .i64 0, .int .i64 pl]] w (RightEnd true w) := by
  have e1 := str_list [45, 62]
  have l0 : (ByteArray.mk #[123]).toList = ([123] : List UInt8) := str_list [123]
  have l1 : (ByteArray.mk #[125]).toList = ([125] : List UInt8) := str_list [125]
  have l2 : (ByteArray.mk #[61]).toList = ([61] : List UInt8) := str_list [61]
  have l3 : (ByteArray.mk #[59]).toList = ([59] : List UInt8) := str_list [59]
  have l4 : (ByteArray.mk #[46]).toList = ([46] : List UInt8) := str_list [46]
  have l5 : (ByteArray.mk #[45, 62]).toList = ([45, 62] : List UInt8) := str_list [45, 62]
  go_enter Tryd.func16, Tryd.ntmps16
  go_wp2
  go_ret
  exact ⟨rfl, (Below.refl _ _).alloc (Nat.le_refl _) _⟩

set_option maxHeartbeats 1000000 in
theorem right_m7 (tx : List UInt8) (pl : Int) (w : World) (h : markT tx = false) : Calls Tryd.prog 16 #[.agg #[.int .u8 3, .string (str tx), .int .i64 0, .int .i64 pl]] w (RightEnd false w) := by
  have e1 := str_list tx
  have l0 : (ByteArray.mk #[123]).toList = ([123] : List UInt8) := str_list [123]
  have l1 : (ByteArray.mk #[125]).toList = ([125] : List UInt8) := str_list [125]
  have l2 : (ByteArray.mk #[61]).toList = ([61] : List UInt8) := str_list [61]
  have l3 : (ByteArray.mk #[59]).toList = ([59] : List UInt8) := str_list [59]
  have l4 : (ByteArray.mk #[46]).toList = ([46] : List UInt8) := str_list [46]
  have l5 : (ByteArray.mk #[45, 62]).toList = ([45, 62] : List UInt8) := str_list [45, 62]
  unfold markT at h
  simp only [Bool.or_eq_false_iff, decide_eq_false_iff_not] at h
  obtain ⟨⟨⟨⟨⟨h1, h2⟩, h3⟩, h4⟩, h5⟩, h6⟩ := h
  have b1 : (tx == [123]) = false := by simpa using h1
  have b2 : (tx == [125]) = false := by simpa using h2
  have b3 : (tx == [61]) = false := by simpa using h3
  have b4 : (tx == [59]) = false := by simpa using h4
  have b5 : (tx == [46]) = false := by simpa using h5
  have b6 : (tx == [45, 62]) = false := by simpa using h6
  go_enter Tryd.func16, Tryd.ntmps16
  go_wp2
  go_ret
  exact ⟨rfl, (Below.refl _ _).alloc (Nat.le_refl _) _⟩

set_option maxHeartbeats 1000000 in
theorem right_x (so : Int) (tx : List UInt8) (nm pl : Int) (w : World) (h1 : so ≠ 1) (h2 : so ≠ 2) (h3 : so ≠ 3) : Calls Tryd.prog 16 #[.agg #[.int .u8 so, .string (str tx), .int .i64 nm, .int .i64 pl]] w (RightEnd false w) := by
  have b1 : decide (so = 1) = false := decide_eq_false h1
  have b2 : decide (so = 2) = false := decide_eq_false h2
  have b3 : decide (so = 3) = false := decide_eq_false h3
  go_enter Tryd.func16, Tryd.ntmps16
  go_wp2
  go_ret
  exact ⟨rfl, (Below.refl _ _).alloc (Nat.le_refl _) _⟩
theorem right_any (t : Tok) (w : World) : Calls Tryd.prog 16 #[.agg #[.int .u8 t.sort, .string (str t.text), .int .i64 t.num, .int .i64 t.place]] w (RightEnd (rightB t) w) := by
  obtain ⟨so, tx, nm, pl⟩ := t
  unfold rightB
  simp only
  by_cases h1 : so = 1
  · subst h1
    rw [if_pos rfl]
    by_cases hn : nm = 0
    · subst hn; exact right_w1 tx pl w
    · rw [decide_eq_false hn]; exact right_w0 tx nm pl w hn
  rw [if_neg h1]
  by_cases h2 : so = 2
  · subst h2
    rw [if_pos rfl]
    exact right_n tx nm pl w
  rw [if_neg h2]
  by_cases h3 : so = 3
  · subst h3
    rw [if_pos rfl]
    by_cases hn : nm = 0
    · subst hn
      rw [decide_eq_true rfl, Bool.true_and]
      cases hm : markT tx with
      | false => exact right_m7 tx pl w hm
      | true =>
        unfold markT at hm
        simp only [Bool.or_eq_true, decide_eq_true_eq] at hm
        rcases hm with ((((h | h) | h) | h) | h) | h <;> subst h
        · exact right_m1 pl w
        · exact right_m2 pl w
        · exact right_m3 pl w
        · exact right_m4 pl w
        · exact right_m5 pl w
        · exact right_m6 pl w
    · rw [decide_eq_false hn]; exact right_m0 tx nm pl w hn
  rw [if_neg h3]
  exact right_x so tx nm pl w h1 h2 h3
end Go.Proofs.YtendmdokgpgngaaDoor
