/- Texts of one chain, laid one behind the other. -/
import Derived.Test.YtolpelfdhcccnaaGreatDoorPartSourceParses22
import Derived.Lib.AppendIntMem
namespace Go.Proofs.YtolpelfdhcccnaaGreatDoor
open Go.ChangeShapes Go.WideShapes Go.ChangeAt Go.RowKit
/-- The table that strconv.Itoa reads is there, whatever is done behind what was there. -/
def Tab (B : Nat) (w : World) : Prop := Lib.TabBelow Tryz.prog B w "internal/strconv.uint64pow10" .u64 Lib.pow10Tab
theorem str_app (a b : List UInt8) : str a ++ str b = str (a ++ b) := ByteArray.mk_append_mk a b
theorem grow_below (w : World) (k : Nat) (os : Array Obj) : Below w.heap.size w (Sort.grow (w.drewN k) os) :=
  ⟨rfl, rfl, rfl, by show _ ≤ (w.heap ++ os).size; rw [Array.size_append]; omega, fun i hi => by show (w.heap ++ os)[i]? = _; rw [Array.getElem?_append_left hi]⟩
theorem itoa_any (n : Int) (h : -9223372036854775808 ≤ n ∧ n ≤ 9223372036854775807) (B : Nat) (w0 w : World) (ht : Tab B w0) (hb : Below B w0 w) :
    Calls Tryz.prog 175 #[.int .i64 n] w fun e w' => e = .returned (.string (str (Lib.itoa n))) ∧ Below w.heap.size w w' :=
  (Go.Proofs.Tryz.strconv_Itoa n h.1 h.2 w (ht w hb)).mono fun _ _ ⟨he, k, os, hw⟩ => ⟨he, by rw [hw]; exact grow_below w k os⟩
def placeT (p : Plc_k) : List UInt8 := p.name ++ [46] ++ Lib.itoa p.port
set_option maxRecDepth 100000 in
set_option maxHeartbeats 2000000 in
theorem placeForm_any (p : Plc_k) (W : World) (hn : p.name.length ≤ 16) (hp : -9223372036854775808 ≤ p.port ∧ p.port ≤ 9223372036854775807) (hi : (Lib.itoa p.port).length ≤ 20) (B : Nat) (w0 : World) (ht : Tab B w0) (hb0 : Below B w0 W) (hB : B ≤ W.heap.size) :
    Calls Tryz.prog 157 #[plV p] W fun e w' => e = .returned (.string (str (placeT p))) ∧ Below W.heap.size W w' := by
  obtain ⟨nm, po, pl⟩ := p
  unfold plV placeT
  simp only at hn hp hi ⊢
  have hbA := (Below.refl W.heap.size W).alloc (Nat.le_refl _) (.cells #[.string (str nm), .int .i64 po, .int .i64 pl] 101)
  have HBA := hidden hbA
  have HIT : Hid (∀ w1, Below W.heap.size W w1 → Calls Tryz.prog 175 #[.int .i64 po] w1 fun e w' => e = .returned (.string (str (Lib.itoa po))) ∧ Below w1.heap.size w1 w') := fun w1 h1 => itoa_any po hp B w0 w1 ht (hb0.trans (h1.mono hB))
  have hK := blk_new 101 W #[.string (str nm), .int .i64 po, .int .i64 pl]
  have d0 : (W.alloc (.cells #[.string (str nm), .int .i64 po, .int .i64 pl] 101)).cell? ⟨W.heap.size, 0, none⟩ = some (.string (str nm)) := hK.cell (k := 0) rfl
  have d1 : (W.alloc (.cells #[.string (str nm), .int .i64 po, .int .i64 pl] 101)).cell? ⟨W.heap.size, 1, none⟩ = some (.int .i64 po) := hK.cell (k := 1) rfl
  have hlt := hK.lt
  have s1 := str_size nm
  have s2 : (ByteArray.mk #[46]).size = 1 := rfl
  have s3 := str_size (nm ++ [46])
  have s4 := str_size (Lib.itoa po)
  have l1 : ¬ (9223372036854775807 < nm.length + 1) := by omega
  have l2 : ¬ (9223372036854775807 < nm.length + 1 + (Lib.itoa po).length) := by omega
  have j1 : str nm ++ ByteArray.mk #[46] = str (nm ++ [46]) := str_app nm [46]
  have j2 := str_app (nm ++ [46]) (Lib.itoa po)
  clear hb0 hB ht hK hbA
  go_enter Tryz.func157, Tryz.ntmps157
  go_wp2
  generalize hW0 : W.alloc (.cells #[.string (str nm), .int .i64 po, .int .i64 pl] 101) = W0 at *
  refine wp_region_said 7 (fun i u v => match i with
      | 0 => v = .pointer (some ⟨W.heap.size, 0, none⟩)
      | 1 => v = .string (str nm)
      | 2 => v = .string (str (nm ++ [46]))
      | 3 => v = .pointer (some ⟨W.heap.size, 1, none⟩)
      | 4 => v = .int .i64 po
      | 5 => v = .string (str (Lib.itoa po))
      | 6 => v = .string (str (nm ++ [46] ++ Lib.itoa po))
      | _ => True) (by kernel_rfl) (by kernel_rfl) (by kernel_rfl) (by kernel_rfl) ?_ ?_ ?_
  · intro i w v w' h hb
    match i, h with
    | 0, h => exact h
    | 1, h => exact h
    | 2, h => exact h
    | 3, h => exact h
    | 4, h => exact h
    | 5, h => exact h
    | 6, h => exact h
    | _ + 7, _ => trivial
  · intro i o ρ w' hi ho hb hc hf hfr hdep
    have LK : ∀ {a : Addr} {x : Value}, a.block < W0.heap.size → W0.cell? a = some x → w'.cell? a = some x := fun h1 h2 => (hb.cell h1).trans h2
    have k0 := LK hlt d0
    have k1 := LK hlt d1
    match i, hi with
    | 0, _ =>
      simp only [gTA, gCZ, gSI] at ho
      subst ho
      have ts : ρ (.tmp 1) = .pointer (some ⟨W.heap.size, 0, none⟩) := hfr 1 (by kernel_rfl)
      simp [go_sem, ts]
      exact ⟨Below.refl _ _, rfl⟩
    | 1, _ =>
      simp only [gTA, gCZ, gCS, gSI] at ho
      subst ho
      have ts : ρ (.tmp 3) = .pointer (some ⟨W.heap.size, 0, none⟩) := hdep 0 3 (by kernel_rfl) (by kernel_rfl)
      simp [go_sem, ts, k0]
      exact ⟨Below.refl _ _, rfl⟩
    | 2, _ =>
      simp only [gTA, gCZ, gCS, gSI] at ho
      subst ho
      have tq : ρ (.tmp 4) = .string (str nm) := hdep 1 4 (by kernel_rfl) (by kernel_rfl)
      simp [go_sem, tq, hc, s1, s2, j1, l1]
      exact ⟨Below.refl _ _, rfl⟩
    | 3, _ =>
      simp only [gTA, gCZ, gCS, gSI] at ho
      subst ho
      have ts : ρ (.tmp 1) = .pointer (some ⟨W.heap.size, 0, none⟩) := hfr 1 (by kernel_rfl)
      simp [go_sem, ts]
      exact ⟨Below.refl _ _, rfl⟩
    | 4, _ =>
      simp only [gTA, gCZ, gCS, gSI] at ho
      subst ho
      have ts : ρ (.tmp 6) = .pointer (some ⟨W.heap.size, 1, none⟩) := hdep 3 6 (by kernel_rfl) (by kernel_rfl)
      simp [go_sem, ts, k1]
      exact ⟨Below.refl _ _, rfl⟩
    | 5, _ =>
      simp only [gTA, gCZ, gCS, gSI] at ho
      subst ho
      have tq : ρ (.tmp 7) = .int .i64 po := hdep 4 7 (by kernel_rfl) (by kernel_rfl)
      simp [go_sem, tq, hf]
      exact ⟨rfl, (HIT.out w' (HBA.out.trans (hb.mono HBA.out.size))).mono fun e u h => ⟨_, h.1, h.2, rfl⟩⟩
    | 6, _ =>
      simp only [gTA, gCZ, gCS, gSI] at ho
      subst ho
      have t1 : ρ (.tmp 5) = .string (str (nm ++ [46])) := hdep 2 5 (by kernel_rfl) (by kernel_rfl)
      have t2 : ρ (.tmp 8) = .string (str (Lib.itoa po)) := hdep 5 8 (by kernel_rfl) (by kernel_rfl)
      simp [go_sem, t1, t2, s3, s4, j2, l2]
      exact ⟨Below.refl _ _, rfl⟩
  · intro V w9 q9 hS
    have e0 : V 0 = .pointer (some ⟨W.heap.size, 0, none⟩) := hS 0 (by decide)
    have e1 : V 1 = .string (str nm) := hS 1 (by decide)
    have e2 : V 2 = .string (str (nm ++ [46])) := hS 2 (by decide)
    have e3 : V 3 = .pointer (some ⟨W.heap.size, 1, none⟩) := hS 3 (by decide)
    have e4 : V 4 = .int .i64 po := hS 4 (by decide)
    have e5 : V 5 = .string (str (Lib.itoa po)) := hS 5 (by decide)
    have e6 : V 6 = .string (str (nm ++ [46] ++ Lib.itoa po)) := hS 6 (by decide)
    simp only [List.drop_succ_cons, List.drop_zero, List.take_succ_cons, List.take_zero, puts, e0, e1, e2, e3, e4, e5, e6]
    clear hS e0 e1 e2 e3 e4 e5 e6 V
    go_wp2
    go_ret
    exact ⟨by simp, HBA.out.trans (q9.mono HBA.out.size)⟩
def numT (n : Int) : List UInt8 := 32 :: Lib.itoa n
def numsT (ns : List Int) : List UInt8 := ns.flatMap numT
/-- Written on: all of it, or enough to be too long, as the whole is. -/
structure Ext (tx full tx' : List UInt8) : Prop where
  le : tx.length ≤ tx'.length
  is : tx' = tx ++ full ∨ (1048576 < tx'.length ∧ 1048576 < (tx ++ full).length)
theorem Ext.all (tx full : List UInt8) : Ext tx full (tx ++ full) := ⟨by simp, Or.inl rfl⟩
theorem Ext.trans {tx a t1 b t2 : List UInt8} (h : Ext tx a t1) (h2 : Ext t1 b t2) : Ext tx (a ++ b) t2 := by
  refine ⟨Nat.le_trans h.le h2.le, ?_⟩
  rcases h.is with rfl | ⟨q1, q2⟩
  · rcases h2.is with rfl | ⟨r1, r2⟩
    · exact Or.inl (List.append_assoc _ _ _)
    · exact Or.inr ⟨r1, by rw [← List.append_assoc]; exact r2⟩
  · have := h2.le
    exact Or.inr ⟨by omega, by simp at q2 ⊢; omega⟩
/-- A number that fits, whose numeral is short. -/
def Small (n : Int) : Prop := (-9223372036854775808 ≤ n ∧ n ≤ 9223372036854775807) ∧ (Lib.itoa n).length ≤ 20
theorem take_nums {ns : List Int} {k : Nat} (h : k < ns.length) : numsT (ns.take (k + 1)) = numsT (ns.take k) ++ numT (ns.getD k 0) := by
  unfold numsT
  rw [List.take_add_one, List.getElem?_eq_getElem h, List.flatMap_append, List.getD_eq_getElem?_getD, List.getElem?_eq_getElem h]
  simp
theorem nums_prefix (ns : List Int) (k : Nat) : (numsT (ns.take k)).length ≤ (numsT ns).length := by
  have : numsT ns = numsT (ns.take k) ++ numsT (ns.drop k) := by
    unfold numsT
    rw [← List.flatMap_append, List.take_append_drop]
  rw [this, List.length_append]
  omega
theorem byte_cells (l : List UInt8) : (Lib.byteCells l).length = l.length := Lib.byteCells_length l
theorem cells_app (a b : List UInt8) : Lib.byteCells a ++ Lib.strCells (str b) = Lib.byteCells (a ++ b) := by
  show List.map _ a ++ List.map _ b = List.map _ (a ++ b)
  rw [List.map_append]
theorem BuilderAt.below5 {T e : TypeId} {B b : Nat} {p : Value} {bs : List Value} {w w' : World} (h : Lib.BuilderAt T e B b p bs w) (hb : Below w.heap.size w w') : Lib.BuilderAt T e B b p bs w' := by
  have hlt := h.lt
  obtain ⟨hB, v, hbk, hown, hne⟩ := h
  exact ⟨hB, v, (hb.block b hlt).trans hbk, owns_below_k hown hb, hne⟩
theorem isB_below {T e : TypeId} {B b : Nat} {bs : List Value} {w w' : World} (h : Lib.IsBuilder T e B b bs w) (hb : Below w.heap.size w w') : Lib.IsBuilder T e B b bs w' := by
  rcases h with h | h
  · exact Or.inl (BuilderAt.below5 h hb)
  · exact Or.inr (BuilderAt.below5 h hb)
set_option maxRecDepth 100000 in
set_option maxHeartbeats 4000000 in
theorem writeNumbers_any (b : Nat) (w0 W : World) (r : Value) (ns : List Int) (tx : List UInt8) (h0 : IntsAt_k w0 r ns) (ht : Tab w0.heap.size w0) (hb : Below w0.heap.size w0 W) (hBu : Lib.IsBuilder 187 5 w0.heap.size b (Lib.byteCells tx) W) (hns : ∀ n ∈ ns, Small n) (hnl : ns.length ≤ 17592186044416) (hl : tx.length ≤ 1048776) :
    Calls Tryz.prog 158 #[.pointer (some ⟨b, 0, none⟩), r] W fun e w' => e = .returned (.tuple #[]) ∧ ∃ tx', Lib.IsBuilder 187 5 w0.heap.size b (Lib.byteCells tx') w' ∧ Below w0.heap.size w0 w' ∧ Ext tx (numsT ns) tx' ∧ tx'.length ≤ 1048800 ∧ Keeps W w' := by
  obtain ⟨a, c, rfl, hrow⟩ := h0
  have HT := hidden ht
  have HB := hidden hb
  have HBU := hidden hBu
  have HNS := hidden hns
  have HROW := hidden hrow
  obtain ⟨n, hn⟩ : ∃ n, ns.length = n := ⟨_, rfl⟩
  rw [hn]
  have hI : (n : Int) ≤ 17592186044416 := by omega
  clear ht hb hBu hns hrow
  go_enter Tryz.func158, Tryz.ntmps158
  go_wp2
  go_loopg [8] n (fun gk v wr => ∃ (k : Nat) (t1 : List UInt8), k ≤ n ∧ gk = n - k ∧ v = .int .i64 (k : Int) ∧ Lib.IsBuilder 187 5 w0.heap.size b (Lib.byteCells t1) wr ∧ Below w0.heap.size w0 wr ∧ t1 = tx ++ numsT (ns.take k) ∧ t1.length ≤ 1048800 ∧ Keeps W wr)
  case atStart => exact ⟨0, tx, Nat.zero_le _, rfl, rfl, HBU.out, HB.out, by simp [numsT], by omega, Keeps.refl _⟩
  case round =>
    clear HBU HB
    obtain ⟨k, t1, hk, rfl, rfl, hbu, hbe, ht1, hl1, hkp⟩ := hrel
    have HKP := hidden hkp
    have HBU := hidden hbu
    have HBE := hidden hbe
    have HT1 := hidden ht1
    have HLEN : Hid (Calls Tryz.prog 113 #[.pointer (some ⟨b, 0, none⟩)] wr fun e w' => e = .returned (.int .i64 (t1.length : Int)) ∧ w' = wr) := by
      have := Go.Proofs.Tryz.Builder_Len w0.heap.size b (Lib.byteCells t1) wr hbu
      rw [byte_cells] at this
      exact this
    have hlI : (t1.length : Int) ≤ 1048800 := by omega
    clear hbu hbe ht1 hkp
    by_cases hlt : k < n
    · have hki : (k : Int) < (n : Int) := by omega
      rcases HROW.out with e | ⟨g, off, rfl, hc⟩
      · rw [e] at hn; simp at hn; omega
      have hcell := (HBE.out.cell (p := ⟨g, off + k, none⟩) (block_lt_of_cell (hc k (by omega)))).trans (hc k (by omega))
      have hsm : Small (ns.getD k 0) := HNS.out _ (by rw [List.getD_eq_getElem?_getD, List.getElem?_eq_getElem (by omega)]; exact List.getElem_mem _)
      have HTK := hidden (take_nums (ns := ns) (k := k) (by omega))
      clear hc
      generalize ns.getD k 0 = x at *
      by_cases hbig : 1048576 < t1.length
      · have hbi : (1048576 : Int) < (t1.length : Int) := by omega
        have HPF := hidden (nums_prefix ns k)
        go_wp2_with (go_at_call 113; (with_reducible refine HLEN.out.mono ?_); rintro e w2 ⟨rfl, rfl⟩)
        go_end0
        refine ⟨rfl, t1, HBU.out, HBE.out, ⟨by rw [HT1.out]; simp, Or.inr ⟨hbig, ?_⟩⟩, hl1, HKP.out⟩
        have h1 := HPF.out
        have h2 := congrArg List.length HT1.out
        simp at h2 ⊢
        omega
      · have hbi : ¬ ((1048576 : Int) < (t1.length : Int)) := by omega
        have HIT : Hid (∀ w1, Below w0.heap.size w0 w1 → Calls Tryz.prog 175 #[.int .i64 x] w1 fun e w' => e = .returned (.string (str (Lib.itoa x))) ∧ Below w1.heap.size w1 w') := fun w1 h1 => itoa_any x hsm.1 _ w0 w1 HT.out h1
        have HIL := hidden hsm.2
        have hIL := hsm.2
        have s1 : (ByteArray.mk #[32]).size = 1 := rfl
        have s2 := str_size (Lib.itoa x)
        have l1 : ¬ (9223372036854775807 < 1 + (Lib.itoa x).length) := by omega
        have j1 : ByteArray.mk #[32] ++ str (Lib.itoa x) = str (numT x) := str_app [32] (Lib.itoa x)
        have HNL : Hid ((numT x).length ≤ 21) := by show (32 :: Lib.itoa x).length ≤ 21; rw [List.length_cons]; omega
        have HWR : Hid (∀ w1, Below w0.heap.size w0 w1 → Lib.IsBuilder 187 5 w0.heap.size b (Lib.byteCells t1) w1 → Calls Tryz.prog 112 #[.pointer (some ⟨b, 0, none⟩), .string (str (numT x))] w1 fun e w' => (∃ z, e = .returned (.tuple #[.int .i64 z, .nilIface])) ∧ Lib.IsBuilder 187 5 w0.heap.size b (Lib.byteCells (t1 ++ numT x)) w' ∧ Below w0.heap.size w1 w' ∧ Keeps w1 w') := fun w1 h1 h2 => (write_any_k w0.heap.size b (Lib.byteCells t1) (str (numT x)) w1 h2 (by rw [byte_cells, str_size]; have := HNL.out; omega) h1.size).mono fun _ _ ⟨he, hbu, hbe, hkk⟩ => ⟨⟨_, he⟩, Or.inr (by rw [← cells_app]; exact hbu), hbe, hkk⟩
        clear hsm hIL
        generalize str (numT x) = SX at *
        go_wp2_with (first
          | (go_at_call 112; (with_reducible refine (HWR.out _ B3.out U3.out).mono ?_); rintro e w4 ⟨⟨z, rfl⟩, hbu, hbe, hkk⟩; have K4 := hidden (K3.out.trans hkk); clear hkk; have U4 := hidden hbu; have B4 := hidden (B3.out.trans hbe); clear hbu hbe)
          | (go_at_call 175; (with_reducible refine (HIT.out _ HBE.out).mono ?_); rintro e w3 ⟨rfl, hb3⟩; have B3 := hidden (HBE.out.trans (hb3.mono HBE.out.size)); have U3 := hidden (isB_below HBU.out hb3); have K3 := hidden (HKP.out.trans (keeps_below hb3)); clear hb3)
          | (go_at_call 113; (with_reducible refine HLEN.out.mono ?_); rintro e w2 ⟨rfl, rfl⟩))
        go_roundg (n - (k + 1))
        case measure => omega
        case rel => exact ⟨k + 1, t1 ++ numT x, by omega, rfl, by go_num, U4.out, B4.out, by rw [HTK.out, HT1.out, List.append_assoc], by have := HNL.out; simp; omega, K4.out⟩
    · have ek : k = n := by omega
      subst ek
      have hki : ¬ ((k : Int) < (k : Int)) := by omega
      go_wp2
      go_end0
      refine ⟨rfl, t1, HBU.out, HBE.out, ?_, hl1, HKP.out⟩
      rw [HT1.out, ← hn, List.take_length]
      exact Ext.all _ _
/-- How an item's line begins. -/
def headT (x : Itm_k) : List UInt8 :=
  if x.kind = 1 then [32, 32, 97, 99, 116, 111, 114, 32] ++ x.name ++ [32, 61, 32] ++ x.tag
  else if x.kind = 2 then [32, 32, 101, 100, 103, 101, 32] ++ placeT x.frm ++ [32, 45, 62, 32] ++ placeT x.to
  else if x.kind = 3 then [32, 32, 105, 110, 32] ++ x.name ++ [32, 45, 62, 32] ++ placeT x.to
  else [32, 32, 111, 117, 116, 32] ++ placeT x.frm ++ [32, 45, 62, 32] ++ x.name
def withT (x : Itm_k) : List UInt8 := if x.kind = 2 ∧ x.nums ≠ [] then [32, 119, 105, 116, 104] else []
def itemT (x : Itm_k) : List UInt8 := headT x ++ withT x ++ numsT x.nums ++ [59, 10]
/-- What an item must have to be written. -/
structure Neat (x : Itm_k) : Prop where
  kind : x.kind = 1 ∨ x.kind = 2 ∨ x.kind = 3 ∨ x.kind = 4
  name : x.name.length ≤ 16
  tag : x.tag.length ≤ 16
  frm : x.frm.name.length ≤ 16
  to : x.to.name.length ≤ 16
  frmP : Small x.frm.port
  toP : Small x.to.port
  nums : ∀ n ∈ x.nums, Small n
theorem place_len (p : Plc_k) (h : p.name.length ≤ 16) (h2 : Small p.port) : (placeT p).length ≤ 37 := by
  unfold placeT
  have := h2.2
  simp
  omega
/-- How a writing on ends. -/
def Wrote (b : Nat) (w0 W : World) (tx : List UInt8) (e : Ending) (w' : World) : Prop :=
  (∃ z, e = .returned (.tuple #[.int .i64 z, .nilIface])) ∧ Lib.IsBuilder 187 5 w0.heap.size b (Lib.byteCells tx) w' ∧ Below w0.heap.size w0 w' ∧ Keeps W w'
theorem wrote (b : Nat) (w0 W : World) (s tx : List UInt8) (hb : Below w0.heap.size w0 W) (hBu : Lib.IsBuilder 187 5 w0.heap.size b (Lib.byteCells tx) W) (hs : s.length ≤ 1000) (hl : tx.length ≤ 2000000) :
    Calls Tryz.prog 112 #[.pointer (some ⟨b, 0, none⟩), .string (str s)] W (Wrote b w0 W (tx ++ s)) :=
  (write_any_k w0.heap.size b (Lib.byteCells tx) (str s) W hBu (by rw [byte_cells, str_size]; omega) hb.size).mono fun _ _ ⟨he, hbu, hbe, hkk⟩ => ⟨⟨_, he⟩, Or.inr (by rw [← cells_app]; exact hbu), hb.trans hbe, hkk⟩
/-- How writeItem ends. -/
def WItem (b : Nat) (w0 W : World) (tx full : List UInt8) (e : Ending) (w' : World) : Prop :=
  e = .returned (.tuple #[]) ∧ ∃ tx', Lib.IsBuilder 187 5 w0.heap.size b (Lib.byteCells tx') w' ∧ Below w0.heap.size w0 w' ∧ Ext tx full tx' ∧ tx'.length ≤ 1048900 ∧ Keeps W w'
set_option maxRecDepth 100000 in
set_option maxHeartbeats 4000000 in
theorem wItem_1 (b : Nat) (w0 W : World) (x : Itm_k) (a : Option Addr) (c : Nat) (tx : List UInt8) (hx : Neat x) (hr : IntsAt_k w0 (.slice a x.nums.length c) x.nums) (ht : Tab w0.heap.size w0) (hb : Below w0.heap.size w0 W) (hBu : Lib.IsBuilder 187 5 w0.heap.size b (Lib.byteCells tx) W) (hl : tx.length ≤ 1048576) (hnl : x.nums.length ≤ 17592186044416) (hk : x.kind = 1) :
    Calls Tryz.prog 114 #[.pointer (some ⟨b, 0, none⟩), .agg (itC_k x.kind x.name x.tag (.slice a x.nums.length c) x.frm x.to x.place)] W (WItem b w0 W tx (itemT x)) := by
  have HHD : headT x = [32, 32, 97, 99, 116, 111, 114, 32] ++ x.name ++ [32, 61, 32] ++ x.tag := by unfold headT; rw [if_pos hk]
  have HWT : withT x = [] := by unfold withT; rw [if_neg (fun h => by rw [hk] at h; exact absurd h.1 (by decide))]
  have HIT : itemT x = headT x ++ withT x ++ numsT x.nums ++ [59, 10] := rfl
  rw [HHD, HWT] at HIT
  rw [HIT]
  clear HIT HHD HWT
  obtain ⟨-, q1, q2, q3, q4, q5, q6, q7⟩ := hx
  have hpf := place_len x.frm q3 q5
  have hpt := place_len x.to q4 q6
  obtain ⟨ki, nm, tg, ns, ⟨fn, fp, fl⟩, ⟨tn, tp, tl⟩, pl⟩ := x
  unfold itC_k
  simp only at hk q1 q2 q3 q4 q5 q6 q7 hpf hpt hr hnl ⊢
  subst hk
  have HNS : Hid (∀ (w1 : World) (t1 : List UInt8), Below w0.heap.size w0 w1 → Lib.IsBuilder 187 5 w0.heap.size b (Lib.byteCells t1) w1 → t1.length ≤ 1048776 → Calls Tryz.prog 158 #[.pointer (some ⟨b, 0, none⟩), .slice a ns.length c] w1 fun e w' => e = .returned (.tuple #[]) ∧ ∃ tx', Lib.IsBuilder 187 5 w0.heap.size b (Lib.byteCells tx') w' ∧ Below w0.heap.size w0 w' ∧ Ext t1 (numsT ns) tx' ∧ tx'.length ≤ 1048800 ∧ Keeps w1 w') := fun w1 t1 h1 h2 h3 => writeNumbers_any b w0 w1 _ ns t1 hr ht h1 h2 q7 hnl h3
  have HEN : Hid (∀ (w1 : World) (t1 : List UInt8), Below w0.heap.size w0 w1 → Lib.IsBuilder 187 5 w0.heap.size b (Lib.byteCells t1) w1 → t1.length ≤ 1048800 → Calls Tryz.prog 112 #[.pointer (some ⟨b, 0, none⟩), .string ⟨#[59, 10]⟩] w1 (Wrote b w0 w1 (t1 ++ [59, 10]))) := fun w1 t1 h1 h2 h3 => wrote b w0 w1 [59, 10] t1 h1 h2 (by decide) (by omega)
  have hbA := (Below.refl W.heap.size W).alloc (Nat.le_refl _) (.cells #[.int .u8 1, .string (str nm), .string (str tg), .slice a ns.length c, .string (str fn), .int .i64 fp, .int .i64 fl, .string (str tn), .int .i64 tp, .int .i64 tl, .int .i64 pl] 103)
  have HBA : Hid (Below w0.heap.size w0 (W.alloc (.cells #[.int .u8 1, .string (str nm), .string (str tg), .slice a ns.length c, .string (str fn), .int .i64 fp, .int .i64 fl, .string (str tn), .int .i64 tp, .int .i64 tl, .int .i64 pl] 103))) := hb.trans (hbA.mono hb.size)
  have HU0 := hidden (isB_below hBu hbA)
  have HK0 := hidden (keeps_below hbA)
  have HX0 := hidden (blk_new 103 W #[.int .u8 1, .string (str nm), .string (str tg), .slice a ns.length c, .string (str fn), .int .i64 fp, .int .i64 fl, .string (str tn), .int .i64 tp, .int .i64 tl, .int .i64 pl])
  obtain ⟨HD, hHD⟩ : ∃ HD, HD = [32, 32, 97, 99, 116, 111, 114, 32] ++ nm ++ [32, 61, 32] ++ tg := ⟨_, rfl⟩
  have HHL : Hid (HD.length ≤ 100) := by show _ ≤ _; rw [hHD]; simp; omega
  have HW1 : Hid (∀ (w1 : World), Below w0.heap.size w0 w1 → Lib.IsBuilder 187 5 w0.heap.size b (Lib.byteCells tx) w1 → Calls Tryz.prog 112 #[.pointer (some ⟨b, 0, none⟩), .string (str HD)] w1 (Wrote b w0 w1 (tx ++ HD))) := fun w1 h1 h2 => wrote b w0 w1 HD tx h1 h2 (by have := HHL.out; omega) (by omega)
  have s1b : (str nm : ByteArray).size = (nm).length := str_size _
  have j1 : (⟨#[32, 32, 97, 99, 116, 111, 114, 32]⟩ : ByteArray) ++ str nm = str ([32, 32, 97, 99, 116, 111, 114, 32] ++ nm) := str_app _ _
  have s2a : (str ([32, 32, 97, 99, 116, 111, 114, 32] ++ nm) : ByteArray).size = ([32, 32, 97, 99, 116, 111, 114, 32] ++ nm).length := str_size _
  have j2 : (str ([32, 32, 97, 99, 116, 111, 114, 32] ++ nm) : ByteArray) ++ ⟨#[32, 61, 32]⟩ = str ([32, 32, 97, 99, 116, 111, 114, 32] ++ nm ++ [32, 61, 32]) := str_app _ _
  have s3a : (str ([32, 32, 97, 99, 116, 111, 114, 32] ++ nm ++ [32, 61, 32]) : ByteArray).size = ([32, 32, 97, 99, 116, 111, 114, 32] ++ nm ++ [32, 61, 32]).length := str_size _
  have s3b : (str tg : ByteArray).size = (tg).length := str_size _
  have j3 : (str ([32, 32, 97, 99, 116, 111, 114, 32] ++ nm ++ [32, 61, 32]) : ByteArray) ++ str tg = str ([32, 32, 97, 99, 116, 111, 114, 32] ++ nm ++ [32, 61, 32] ++ tg) := str_app _ _
  rw [← hHD] at j3
  have z1 : ¬ (9223372036854775807 < 8 + (str nm : ByteArray).size) := by rw [s1b]; omega
  have z2 : ¬ (9223372036854775807 < (str ([32, 32, 97, 99, 116, 111, 114, 32] ++ nm)).size + 3) := by rw [s2a]; simp; omega
  have z3 : ¬ (9223372036854775807 < (str ([32, 32, 97, 99, 116, 111, 114, 32] ++ nm ++ [32, 61, 32])).size + (str tg : ByteArray).size) := by rw [s3a, s3b]; simp; omega
  have HHD := hidden hHD
  clear s1b s2a s3a s3b hHD hpf hpt q1 q2 q3 q4 q5 q6 q7 hb hBu ht hbA hr
  obtain ⟨n, hn⟩ : ∃ n, ns.length = n := ⟨_, rfl⟩
  rw [hn] at HNS HBA HU0 HK0 HX0 ⊢
  clear hn
  generalize str ([32, 32, 97, 99, 116, 111, 114, 32] ++ nm) = M1 at *
  generalize str ([32, 32, 97, 99, 116, 111, 114, 32] ++ nm ++ [32, 61, 32]) = M2 at *
  generalize str HD = M3 at *
  go_enter Tryz.func114, Tryz.ntmps114
  go_wp2_with (first
    | (go_at_call 112; (with_reducible refine (HEN.out _ _ B3.out U3.out L3.out).mono ?_); rintro e w4 ⟨⟨z4, rfl⟩, hu, hbe, hkk⟩; have B4 := hidden hbe; have U4 := hidden hu; have K4 := hidden (K3.out.trans hkk); clear hu hbe hkk)
    | (go_at_call 158; (with_reducible refine (HNS.out _ _ B2.out U2.out (by have := HHL.out; have := L2.out; omega)).mono ?_); rintro e w3 ⟨rfl, t3, hu, hbe, hex, hle, hkk⟩; have B3 := hidden hbe; have U3 := hidden hu; have K3 := hidden (K2.out.trans hkk); have X3 := hidden hex; have L3 := hidden hle; clear hu hbe hkk hex hle)
    | (go_at_call 112; (with_reducible refine (HW1.out _ HBA.out HU0.out).mono ?_); rintro e w2 ⟨⟨z1, rfl⟩, hu, hbe, hkk⟩; have B2 := hidden hbe; have U2 := hidden hu; have K2 := hidden (HK0.out.trans hkk); have XB := hkk _ _ _ (by decide) (by decide) HX0.out; have L2 : Hid ((tx ++ HD).length ≤ 1048690) := by { have := HHL.out; show _ ≤ _; simp; omega }; have d3 : w2.cell? ⟨W.heap.size, 3, none⟩ = some (.slice a n c) := XB.cell (k := 3) rfl; clear hu hbe hkk XB))
  go_end0
  refine ⟨rfl, _, U4.out, B4.out, ?_, by have := L3.out; simp; omega, K4.out⟩
  have f1 : Ext tx (HD ++ []) (tx ++ HD) := by
    have := Ext.all tx (HD ++ [])
    rwa [List.append_nil] at this ⊢
  have f2 := (f1.trans X3.out).trans (Ext.all t3 [59, 10])
  rw [HHD.out] at f2
  exact f2
set_option maxRecDepth 100000 in
set_option maxHeartbeats 4000000 in
theorem wItem_2y (b : Nat) (w0 W : World) (x : Itm_k) (a : Option Addr) (c : Nat) (tx : List UInt8) (hx : Neat x) (hr : IntsAt_k w0 (.slice a x.nums.length c) x.nums) (ht : Tab w0.heap.size w0) (hb : Below w0.heap.size w0 W) (hBu : Lib.IsBuilder 187 5 w0.heap.size b (Lib.byteCells tx) W) (hl : tx.length ≤ 1048576) (hnl : x.nums.length ≤ 17592186044416) (hk : x.kind = 2) (hw : x.nums ≠ []) :
    Calls Tryz.prog 114 #[.pointer (some ⟨b, 0, none⟩), .agg (itC_k x.kind x.name x.tag (.slice a x.nums.length c) x.frm x.to x.place)] W (WItem b w0 W tx (itemT x)) := by
  have HHD : headT x = [32, 32, 101, 100, 103, 101, 32] ++ placeT x.frm ++ [32, 45, 62, 32] ++ placeT x.to := by unfold headT; rw [if_neg (by rw [hk]; decide), if_pos hk]
  have HWT : withT x = [32, 119, 105, 116, 104] := by unfold withT; rw [if_pos ⟨hk, hw⟩]
  have HIT : itemT x = headT x ++ withT x ++ numsT x.nums ++ [59, 10] := rfl
  rw [HHD, HWT] at HIT
  rw [HIT]
  clear HIT HHD HWT
  obtain ⟨-, q1, q2, q3, q4, q5, q6, q7⟩ := hx
  have hpf := place_len x.frm q3 q5
  have hpt := place_len x.to q4 q6
  obtain ⟨ki, nm, tg, ns, ⟨fn, fp, fl⟩, ⟨tn, tp, tl⟩, pl⟩ := x
  unfold itC_k
  simp only at hk q1 q2 q3 q4 q5 q6 q7 hpf hpt hr hnl hw ⊢
  subst hk
  have HNS : Hid (∀ (w1 : World) (t1 : List UInt8), Below w0.heap.size w0 w1 → Lib.IsBuilder 187 5 w0.heap.size b (Lib.byteCells t1) w1 → t1.length ≤ 1048776 → Calls Tryz.prog 158 #[.pointer (some ⟨b, 0, none⟩), .slice a ns.length c] w1 fun e w' => e = .returned (.tuple #[]) ∧ ∃ tx', Lib.IsBuilder 187 5 w0.heap.size b (Lib.byteCells tx') w' ∧ Below w0.heap.size w0 w' ∧ Ext t1 (numsT ns) tx' ∧ tx'.length ≤ 1048800 ∧ Keeps w1 w') := fun w1 t1 h1 h2 h3 => writeNumbers_any b w0 w1 _ ns t1 hr ht h1 h2 q7 hnl h3
  have HEN : Hid (∀ (w1 : World) (t1 : List UInt8), Below w0.heap.size w0 w1 → Lib.IsBuilder 187 5 w0.heap.size b (Lib.byteCells t1) w1 → t1.length ≤ 1048800 → Calls Tryz.prog 112 #[.pointer (some ⟨b, 0, none⟩), .string ⟨#[59, 10]⟩] w1 (Wrote b w0 w1 (t1 ++ [59, 10]))) := fun w1 t1 h1 h2 h3 => wrote b w0 w1 [59, 10] t1 h1 h2 (by decide) (by omega)
  have hbA := (Below.refl W.heap.size W).alloc (Nat.le_refl _) (.cells #[.int .u8 2, .string (str nm), .string (str tg), .slice a ns.length c, .string (str fn), .int .i64 fp, .int .i64 fl, .string (str tn), .int .i64 tp, .int .i64 tl, .int .i64 pl] 103)
  have HBA : Hid (Below w0.heap.size w0 (W.alloc (.cells #[.int .u8 2, .string (str nm), .string (str tg), .slice a ns.length c, .string (str fn), .int .i64 fp, .int .i64 fl, .string (str tn), .int .i64 tp, .int .i64 tl, .int .i64 pl] 103))) := hb.trans (hbA.mono hb.size)
  have HU0 := hidden (isB_below hBu hbA)
  have HK0 := hidden (keeps_below hbA)
  have HX0 := hidden (blk_new 103 W #[.int .u8 2, .string (str nm), .string (str tg), .slice a ns.length c, .string (str fn), .int .i64 fp, .int .i64 fl, .string (str tn), .int .i64 tp, .int .i64 tl, .int .i64 pl])
  obtain ⟨HD, hHD⟩ : ∃ HD, HD = [32, 32, 101, 100, 103, 101, 32] ++ (placeT ⟨fn, fp, fl⟩) ++ [32, 45, 62, 32] ++ (placeT ⟨tn, tp, tl⟩) := ⟨_, rfl⟩
  have HHL : Hid (HD.length ≤ 100) := by show _ ≤ _; rw [hHD]; simp; omega
  have HW1 : Hid (∀ (w1 : World), Below w0.heap.size w0 w1 → Lib.IsBuilder 187 5 w0.heap.size b (Lib.byteCells tx) w1 → Calls Tryz.prog 112 #[.pointer (some ⟨b, 0, none⟩), .string (str HD)] w1 (Wrote b w0 w1 (tx ++ HD))) := fun w1 h1 h2 => wrote b w0 w1 HD tx h1 h2 (by have := HHL.out; omega) (by omega)
  have HW2 : Hid (∀ (w1 : World) (t1 : List UInt8), Below w0.heap.size w0 w1 → Lib.IsBuilder 187 5 w0.heap.size b (Lib.byteCells t1) w1 → t1.length ≤ 1048700 → Calls Tryz.prog 112 #[.pointer (some ⟨b, 0, none⟩), .string ⟨#[32, 119, 105, 116, 104]⟩] w1 (Wrote b w0 w1 (t1 ++ [32, 119, 105, 116, 104]))) := fun w1 t1 h1 h2 h3 => wrote b w0 w1 [32, 119, 105, 116, 104] t1 h1 h2 (by decide) (by omega)
  have HPF : Hid (∀ w1, Below w0.heap.size w0 w1 → Calls Tryz.prog 157 #[.agg #[.string (str fn), .int .i64 fp, .int .i64 fl]] w1 fun e w' => e = .returned (.string (str (placeT ⟨fn, fp, fl⟩))) ∧ Below w1.heap.size w1 w') := fun w1 h1 => placeForm_any ⟨fn, fp, fl⟩ w1 q3 q5.1 q5.2 _ w0 ht h1 h1.size
  have HPT : Hid (∀ w1, Below w0.heap.size w0 w1 → Calls Tryz.prog 157 #[.agg #[.string (str tn), .int .i64 tp, .int .i64 tl]] w1 fun e w' => e = .returned (.string (str (placeT ⟨tn, tp, tl⟩))) ∧ Below w1.heap.size w1 w') := fun w1 h1 => placeForm_any ⟨tn, tp, tl⟩ w1 q4 q6.1 q6.2 _ w0 ht h1 h1.size
  have s1b : (str (placeT ⟨fn, fp, fl⟩) : ByteArray).size = (placeT ⟨fn, fp, fl⟩).length := str_size _
  have j1 : (⟨#[32, 32, 101, 100, 103, 101, 32]⟩ : ByteArray) ++ str (placeT ⟨fn, fp, fl⟩) = str ([32, 32, 101, 100, 103, 101, 32] ++ (placeT ⟨fn, fp, fl⟩)) := str_app _ _
  have s2a : (str ([32, 32, 101, 100, 103, 101, 32] ++ (placeT ⟨fn, fp, fl⟩)) : ByteArray).size = ([32, 32, 101, 100, 103, 101, 32] ++ (placeT ⟨fn, fp, fl⟩)).length := str_size _
  have j2 : (str ([32, 32, 101, 100, 103, 101, 32] ++ (placeT ⟨fn, fp, fl⟩)) : ByteArray) ++ ⟨#[32, 45, 62, 32]⟩ = str ([32, 32, 101, 100, 103, 101, 32] ++ (placeT ⟨fn, fp, fl⟩) ++ [32, 45, 62, 32]) := str_app _ _
  have s3a : (str ([32, 32, 101, 100, 103, 101, 32] ++ (placeT ⟨fn, fp, fl⟩) ++ [32, 45, 62, 32]) : ByteArray).size = ([32, 32, 101, 100, 103, 101, 32] ++ (placeT ⟨fn, fp, fl⟩) ++ [32, 45, 62, 32]).length := str_size _
  have s3b : (str (placeT ⟨tn, tp, tl⟩) : ByteArray).size = (placeT ⟨tn, tp, tl⟩).length := str_size _
  have j3 : (str ([32, 32, 101, 100, 103, 101, 32] ++ (placeT ⟨fn, fp, fl⟩) ++ [32, 45, 62, 32]) : ByteArray) ++ str (placeT ⟨tn, tp, tl⟩) = str ([32, 32, 101, 100, 103, 101, 32] ++ (placeT ⟨fn, fp, fl⟩) ++ [32, 45, 62, 32] ++ (placeT ⟨tn, tp, tl⟩)) := str_app _ _
  rw [← hHD] at j3
  have z1 : ¬ (9223372036854775807 < 7 + (str (placeT ⟨fn, fp, fl⟩) : ByteArray).size) := by rw [s1b]; omega
  have z2 : ¬ (9223372036854775807 < (str ([32, 32, 101, 100, 103, 101, 32] ++ (placeT ⟨fn, fp, fl⟩))).size + 4) := by rw [s2a]; simp; omega
  have z3 : ¬ (9223372036854775807 < (str ([32, 32, 101, 100, 103, 101, 32] ++ (placeT ⟨fn, fp, fl⟩) ++ [32, 45, 62, 32])).size + (str (placeT ⟨tn, tp, tl⟩) : ByteArray).size) := by rw [s3a, s3b]; simp; omega
  have HHD := hidden hHD
  clear s1b s2a s3a s3b hHD hpf hpt q1 q2 q3 q4 q5 q6 q7 hb hBu ht hbA hr
  obtain ⟨n, hn⟩ : ∃ n, ns.length = n := ⟨_, rfl⟩
  have hn0 : (0 : Int) < (n : Int) := by have : 0 < ns.length := List.length_pos_iff.2 hw; omega
  rw [hn] at HNS HBA HU0 HK0 HX0 ⊢
  clear hn hw
  generalize str ([32, 32, 101, 100, 103, 101, 32] ++ (placeT ⟨fn, fp, fl⟩)) = M1 at *
  generalize str ([32, 32, 101, 100, 103, 101, 32] ++ (placeT ⟨fn, fp, fl⟩) ++ [32, 45, 62, 32]) = M2 at *
  generalize str HD = M3 at *
  go_enter Tryz.func114, Tryz.ntmps114
  go_wp2
  refine wp_region_gen [10] (fun d i u z => match i with
      | 0 => z = .pointer (some ⟨b, 0, none⟩)
      | 1 => z = .pointer (some ⟨W.heap.size, 4, none⟩)
      | 2 => z = .agg #[.string (str fn), .int .i64 fp, .int .i64 fl]
      | 3 => z = .string (str (placeT ⟨fn, fp, fl⟩))
      | 4 => z = .string M1
      | 5 => z = .string M2
      | 6 => z = .pointer (some ⟨W.heap.size, 7, none⟩)
      | 7 => z = .agg #[.string (str tn), .int .i64 tp, .int .i64 tl]
      | 8 => z = .string (str (placeT ⟨tn, tp, tl⟩))
      | 9 => z = .string M3
      | 10 => True
      | _ => True) (fun d u => Blk 103 W.heap.size u #[.int .u8 2, .string (str nm), .string (str tg), .slice a n c, .string (str fn), .int .i64 fp, .int .i64 fl, .string (str tn), .int .i64 tp, .int .i64 tl, .int .i64 pl] ∧ Below w0.heap.size w0 u ∧ (d 10 = false → Lib.IsBuilder 187 5 w0.heap.size b (Lib.byteCells tx) u) ∧ (d 10 = true → Lib.IsBuilder 187 5 w0.heap.size b (Lib.byteCells (tx ++ HD)) u) ∧ Keeps W u) (by kernel_rfl) (by kernel_rfl) (by kernel_rfl) ?_ ?_ ?_ ?_ ?_ ?_ (by kernel_rfl)
  · intro d i w v w' h hb
    match i, h with
    | 0, h => exact h
    | 1, h => exact h
    | 2, h => exact h
    | 3, h => exact h
    | 4, h => exact h
    | 5, h => exact h
    | 6, h => exact h
    | 7, h => exact h
    | 8, h => exact h
    | 9, h => exact h
    | 10, h => exact h
    | _ + 11, _ => trivial
  · intro d u u' h hb
    exact ⟨h.1.below hb, h.2.1.trans (hb.mono h.2.1.size), fun h1 => isB_below (h.2.2.1 h1) hb, fun h1 => isB_below (h.2.2.2.1 h1) hb, h.2.2.2.2.trans (keeps_below hb)⟩
  · exact ⟨HX0.out, HBA.out, fun _ => HU0.out, fun h => absurd h (by decide), HK0.out⟩
  · intro d i o ρ w' hm ho hf hg hC hcs hfs hfr hdep
    match i, hm, ho, hf, hg, hfr, hdep with
    | 0, _, ho, hf, hg, hfr, hdep =>
      simp only [gTA, gCZ, gSI] at ho
      subst ho
      refine ⟨fun _ => ?_, fun hw => absurd (show true = false from hw) (by decide)⟩
      have ts : ρ (.tmp 0) = .pointer (some ⟨b, 0, none⟩) := hfr 0 (by kernel_rfl)
      simp [go_sem, ts]
      exact ⟨Below.refl _ _, rfl⟩
    | 1, _, ho, hf, hg, hfr, hdep =>
      simp only [gTA, gCZ, gCS, gSI] at ho
      subst ho
      refine ⟨fun _ => ?_, fun hw => absurd (show true = false from hw) (by decide)⟩
      have tq : ρ (.tmp 3) = .pointer (some ⟨W.heap.size, 0, none⟩) := hfr 3 (by kernel_rfl)
      simp [go_sem, tq]
      exact ⟨Below.refl _ _, rfl⟩
    | 2, _, ho, hf, hg, hfr, hdep =>
      simp only [gTA, gCZ, gCS, gSI] at ho
      subst ho
      refine ⟨fun _ => ?_, fun hw => absurd (show true = false from hw) (by decide)⟩
      have tq : ρ (.tmp 20) = .pointer (some ⟨W.heap.size, 4, none⟩) := hdep 1 20 (by kernel_rfl) (by kernel_rfl)
      have c0 : w'.cell? ⟨W.heap.size, 4, none⟩ = some (.string (str fn)) := hC.1.cell (k := 4) rfl
      have c1 : w'.cell? ⟨W.heap.size, 5, none⟩ = some (.int .i64 fp) := hC.1.cell (k := 5) rfl
      have c2 : w'.cell? ⟨W.heap.size, 6, none⟩ = some (.int .i64 fl) := hC.1.cell (k := 6) rfl
      simp [go_sem, tq, c0, c1, c2]
      exact ⟨Below.refl _ _, rfl⟩
    | 3, _, ho, hf, hg, hfr, hdep =>
      simp only [gTA, gCZ, gCS, gSI] at ho
      subst ho
      refine ⟨fun _ => ?_, fun hw => absurd (show true = false from hw) (by decide)⟩
      have tq : ρ (.tmp 21) = .agg #[.string (str fn), .int .i64 fp, .int .i64 fl] := hdep 2 21 (by kernel_rfl) (by kernel_rfl)
      simp [go_sem, tq, hfs]
      exact ⟨rfl, (HPF.out w' hC.2.1).mono fun e u h => ⟨_, h.1, h.2, rfl⟩⟩
    | 4, _, ho, hf, hg, hfr, hdep =>
      simp only [gTA, gCZ, gCS, gSI] at ho
      subst ho
      refine ⟨fun _ => ?_, fun hw => absurd (show true = false from hw) (by decide)⟩
      have d0 : ρ (.tmp 22) = .string (str (placeT ⟨fn, fp, fl⟩)) := hdep 3 22 (by kernel_rfl) (by kernel_rfl)
      simp [go_sem, hcs, d0, z1, j1]
      exact ⟨Below.refl _ _, rfl⟩
    | 5, _, ho, hf, hg, hfr, hdep =>
      simp only [gTA, gCZ, gCS, gSI] at ho
      subst ho
      refine ⟨fun _ => ?_, fun hw => absurd (show true = false from hw) (by decide)⟩
      have d0 : ρ (.tmp 23) = .string (M1) := hdep 4 23 (by kernel_rfl) (by kernel_rfl)
      simp [go_sem, hcs, d0, z2, j2]
      exact ⟨Below.refl _ _, rfl⟩
    | 6, _, ho, hf, hg, hfr, hdep =>
      simp only [gTA, gCZ, gCS, gSI] at ho
      subst ho
      refine ⟨fun _ => ?_, fun hw => absurd (show true = false from hw) (by decide)⟩
      have tq : ρ (.tmp 3) = .pointer (some ⟨W.heap.size, 0, none⟩) := hfr 3 (by kernel_rfl)
      simp [go_sem, tq]
      exact ⟨Below.refl _ _, rfl⟩
    | 7, _, ho, hf, hg, hfr, hdep =>
      simp only [gTA, gCZ, gCS, gSI] at ho
      subst ho
      refine ⟨fun _ => ?_, fun hw => absurd (show true = false from hw) (by decide)⟩
      have tq : ρ (.tmp 25) = .pointer (some ⟨W.heap.size, 7, none⟩) := hdep 6 25 (by kernel_rfl) (by kernel_rfl)
      have c0 : w'.cell? ⟨W.heap.size, 7, none⟩ = some (.string (str tn)) := hC.1.cell (k := 7) rfl
      have c1 : w'.cell? ⟨W.heap.size, 8, none⟩ = some (.int .i64 tp) := hC.1.cell (k := 8) rfl
      have c2 : w'.cell? ⟨W.heap.size, 9, none⟩ = some (.int .i64 tl) := hC.1.cell (k := 9) rfl
      simp [go_sem, tq, c0, c1, c2]
      exact ⟨Below.refl _ _, rfl⟩
    | 8, _, ho, hf, hg, hfr, hdep =>
      simp only [gTA, gCZ, gCS, gSI] at ho
      subst ho
      refine ⟨fun _ => ?_, fun hw => absurd (show true = false from hw) (by decide)⟩
      have tq : ρ (.tmp 26) = .agg #[.string (str tn), .int .i64 tp, .int .i64 tl] := hdep 7 26 (by kernel_rfl) (by kernel_rfl)
      simp [go_sem, tq, hfs]
      exact ⟨rfl, (HPT.out w' hC.2.1).mono fun e u h => ⟨_, h.1, h.2, rfl⟩⟩
    | 9, _, ho, hf, hg, hfr, hdep =>
      simp only [gTA, gCZ, gCS, gSI] at ho
      subst ho
      refine ⟨fun _ => ?_, fun hw => absurd (show true = false from hw) (by decide)⟩
      have d0 : ρ (.tmp 24) = .string (M2) := hdep 5 24 (by kernel_rfl) (by kernel_rfl)
      have d1 : ρ (.tmp 27) = .string (str (placeT ⟨tn, tp, tl⟩)) := hdep 8 27 (by kernel_rfl) (by kernel_rfl)
      simp [go_sem, d0, d1, z3, j3]
      exact ⟨Below.refl _ _, rfl⟩
    | 10, hm, _, _, _, _, _ => exact absurd hm (by decide)
    | n + 11, _, ho, _, _, _, _ => simp at ho
  · intro d i o ρ w' hm ho h0 hf hg hC hcs hfs hfr hdep
    match i, hm, ho, h0, hf, hg, hfr, hdep with
    | 0, hm, _, _, _, _, _, _ => exact absurd hm (by decide)
    | 1, hm, _, _, _, _, _, _ => exact absurd hm (by decide)
    | 2, hm, _, _, _, _, _, _ => exact absurd hm (by decide)
    | 3, hm, _, _, _, _, _, _ => exact absurd hm (by decide)
    | 4, hm, _, _, _, _, _, _ => exact absurd hm (by decide)
    | 5, hm, _, _, _, _, _, _ => exact absurd hm (by decide)
    | 6, hm, _, _, _, _, _, _ => exact absurd hm (by decide)
    | 7, hm, _, _, _, _, _, _ => exact absurd hm (by decide)
    | 8, hm, _, _, _, _, _, _ => exact absurd hm (by decide)
    | 9, hm, _, _, _, _, _, _ => exact absurd hm (by decide)
    | 10, _, ho, h0, hf, hg, hfr, hdep =>
      simp only [gTA, gCZ, gCS, gSI] at ho
      subst ho
      refine ⟨rfl, ?_⟩
      have t1 : ρ (.tmp 19) = .pointer (some ⟨b, 0, none⟩) := hdep 0 19 (by kernel_rfl) (by kernel_rfl)
      have t2 : ρ (.tmp 28) = .string M3 := hdep 9 28 (by kernel_rfl) (by kernel_rfl)
      simp [go_sem, t1, t2, hfs]
      refine ⟨rfl, (HW1.out _ hC.2.1 (hC.2.2.1 h0)).mono ?_⟩
      rintro e u ⟨⟨z, rfl⟩, hbu, hbe, hkk⟩
      exact ⟨_, rfl, hkk _ _ _ (by decide) (by decide) hC.1, hbe, fun h => absurd h (by simp [doneAt]), fun _ => hbu, hC.2.2.2.2.trans hkk⟩
    | n + 11, _, ho, _, _, _, _, _ => simp at ho
  · intro V w9 hC9 hS
    simp only [puts]
    simp only [Act.put, List.setIfInBounds_toArray, List.set_cons_zero, List.set_cons_succ]
    clear hS 
    have B1 := hidden hC9.2.1
    have U1 := hidden (hC9.2.2.2.1 rfl)
    have K1 := hidden hC9.2.2.2.2
    have X1 := hidden hC9.1
    have d3' : w9.cell? ⟨W.heap.size, 3, none⟩ = some (.slice a n c) := hC9.1.cell (k := 3) rfl
    clear hC9
    go_wp2_with (first
      | (go_at_call 112; (with_reducible refine (HEN.out _ _ B3.out U3.out L3.out).mono ?_); rintro e w4 ⟨⟨z4, rfl⟩, hu, hbe, hkk⟩; have B4 := hidden hbe; have U4 := hidden hu; have K4 := hidden (K3.out.trans hkk); clear hu hbe hkk)
      | (go_at_call 158; (with_reducible refine (HNS.out _ _ B2.out U2.out (by have := HHL.out; have := L2.out; omega)).mono ?_); rintro e w3 ⟨rfl, t3, hu, hbe, hex, hle, hkk⟩; have B3 := hidden hbe; have U3 := hidden hu; have K3 := hidden (K2.out.trans hkk); have X3 := hidden hex; have L3 := hidden hle; clear hu hbe hkk hex hle)
      | (go_at_call 112; (with_reducible refine (HW2.out _ _ B1.out U1.out (by have := HHL.out; simp; omega)).mono ?_); rintro e w2 ⟨⟨z2, rfl⟩, hu, hbe, hkk⟩; have B2 := hidden hbe; have U2 := hidden hu; have K2 := hidden (K1.out.trans hkk); have XB := hkk _ _ _ (by decide) (by decide) X1.out; have L2 : Hid ((tx ++ HD ++ [32, 119, 105, 116, 104]).length ≤ 1048690) := by { have := HHL.out; show _ ≤ _; simp; omega }; have d3 : w2.cell? ⟨W.heap.size, 3, none⟩ = some (.slice a n c) := XB.cell (k := 3) rfl; clear hu hbe hkk XB))
    go_end0
    refine ⟨rfl, _, U4.out, B4.out, ?_, by have := L3.out; simp; omega, K4.out⟩
    have f1 : Ext tx (HD ++ [32, 119, 105, 116, 104]) (tx ++ HD ++ [32, 119, 105, 116, 104]) := by
      have := Ext.all tx (HD ++ [32, 119, 105, 116, 104])
      rwa [← List.append_assoc] at this
    have f2 := (f1.trans X3.out).trans (Ext.all t3 [59, 10])
    rw [HHD.out] at f2
    exact f2
set_option maxRecDepth 100000 in
set_option maxHeartbeats 4000000 in
theorem wItem_2n (b : Nat) (w0 W : World) (x : Itm_k) (a : Option Addr) (c : Nat) (tx : List UInt8) (hx : Neat x) (hr : IntsAt_k w0 (.slice a x.nums.length c) x.nums) (ht : Tab w0.heap.size w0) (hb : Below w0.heap.size w0 W) (hBu : Lib.IsBuilder 187 5 w0.heap.size b (Lib.byteCells tx) W) (hl : tx.length ≤ 1048576) (hnl : x.nums.length ≤ 17592186044416) (hk : x.kind = 2) (hw : x.nums = []) :
    Calls Tryz.prog 114 #[.pointer (some ⟨b, 0, none⟩), .agg (itC_k x.kind x.name x.tag (.slice a x.nums.length c) x.frm x.to x.place)] W (WItem b w0 W tx (itemT x)) := by
  have HHD : headT x = [32, 32, 101, 100, 103, 101, 32] ++ placeT x.frm ++ [32, 45, 62, 32] ++ placeT x.to := by unfold headT; rw [if_neg (by rw [hk]; decide), if_pos hk]
  have HWT : withT x = [] := by unfold withT; rw [if_neg (fun h => h.2 hw)]
  have HIT : itemT x = headT x ++ withT x ++ numsT x.nums ++ [59, 10] := rfl
  rw [HHD, HWT] at HIT
  rw [HIT]
  clear HIT HHD HWT
  obtain ⟨-, q1, q2, q3, q4, q5, q6, q7⟩ := hx
  have hpf := place_len x.frm q3 q5
  have hpt := place_len x.to q4 q6
  obtain ⟨ki, nm, tg, ns, ⟨fn, fp, fl⟩, ⟨tn, tp, tl⟩, pl⟩ := x
  unfold itC_k
  simp only at hk q1 q2 q3 q4 q5 q6 q7 hpf hpt hr hnl hw ⊢
  subst hk
  have HNS : Hid (∀ (w1 : World) (t1 : List UInt8), Below w0.heap.size w0 w1 → Lib.IsBuilder 187 5 w0.heap.size b (Lib.byteCells t1) w1 → t1.length ≤ 1048776 → Calls Tryz.prog 158 #[.pointer (some ⟨b, 0, none⟩), .slice a ns.length c] w1 fun e w' => e = .returned (.tuple #[]) ∧ ∃ tx', Lib.IsBuilder 187 5 w0.heap.size b (Lib.byteCells tx') w' ∧ Below w0.heap.size w0 w' ∧ Ext t1 (numsT ns) tx' ∧ tx'.length ≤ 1048800 ∧ Keeps w1 w') := fun w1 t1 h1 h2 h3 => writeNumbers_any b w0 w1 _ ns t1 hr ht h1 h2 q7 hnl h3
  have HEN : Hid (∀ (w1 : World) (t1 : List UInt8), Below w0.heap.size w0 w1 → Lib.IsBuilder 187 5 w0.heap.size b (Lib.byteCells t1) w1 → t1.length ≤ 1048800 → Calls Tryz.prog 112 #[.pointer (some ⟨b, 0, none⟩), .string ⟨#[59, 10]⟩] w1 (Wrote b w0 w1 (t1 ++ [59, 10]))) := fun w1 t1 h1 h2 h3 => wrote b w0 w1 [59, 10] t1 h1 h2 (by decide) (by omega)
  have hbA := (Below.refl W.heap.size W).alloc (Nat.le_refl _) (.cells #[.int .u8 2, .string (str nm), .string (str tg), .slice a ns.length c, .string (str fn), .int .i64 fp, .int .i64 fl, .string (str tn), .int .i64 tp, .int .i64 tl, .int .i64 pl] 103)
  have HBA : Hid (Below w0.heap.size w0 (W.alloc (.cells #[.int .u8 2, .string (str nm), .string (str tg), .slice a ns.length c, .string (str fn), .int .i64 fp, .int .i64 fl, .string (str tn), .int .i64 tp, .int .i64 tl, .int .i64 pl] 103))) := hb.trans (hbA.mono hb.size)
  have HU0 := hidden (isB_below hBu hbA)
  have HK0 := hidden (keeps_below hbA)
  have HX0 := hidden (blk_new 103 W #[.int .u8 2, .string (str nm), .string (str tg), .slice a ns.length c, .string (str fn), .int .i64 fp, .int .i64 fl, .string (str tn), .int .i64 tp, .int .i64 tl, .int .i64 pl])
  obtain ⟨HD, hHD⟩ : ∃ HD, HD = [32, 32, 101, 100, 103, 101, 32] ++ (placeT ⟨fn, fp, fl⟩) ++ [32, 45, 62, 32] ++ (placeT ⟨tn, tp, tl⟩) := ⟨_, rfl⟩
  have HHL : Hid (HD.length ≤ 100) := by show _ ≤ _; rw [hHD]; simp; omega
  have HW1 : Hid (∀ (w1 : World), Below w0.heap.size w0 w1 → Lib.IsBuilder 187 5 w0.heap.size b (Lib.byteCells tx) w1 → Calls Tryz.prog 112 #[.pointer (some ⟨b, 0, none⟩), .string (str HD)] w1 (Wrote b w0 w1 (tx ++ HD))) := fun w1 h1 h2 => wrote b w0 w1 HD tx h1 h2 (by have := HHL.out; omega) (by omega)
  have HPF : Hid (∀ w1, Below w0.heap.size w0 w1 → Calls Tryz.prog 157 #[.agg #[.string (str fn), .int .i64 fp, .int .i64 fl]] w1 fun e w' => e = .returned (.string (str (placeT ⟨fn, fp, fl⟩))) ∧ Below w1.heap.size w1 w') := fun w1 h1 => placeForm_any ⟨fn, fp, fl⟩ w1 q3 q5.1 q5.2 _ w0 ht h1 h1.size
  have HPT : Hid (∀ w1, Below w0.heap.size w0 w1 → Calls Tryz.prog 157 #[.agg #[.string (str tn), .int .i64 tp, .int .i64 tl]] w1 fun e w' => e = .returned (.string (str (placeT ⟨tn, tp, tl⟩))) ∧ Below w1.heap.size w1 w') := fun w1 h1 => placeForm_any ⟨tn, tp, tl⟩ w1 q4 q6.1 q6.2 _ w0 ht h1 h1.size
  have s1b : (str (placeT ⟨fn, fp, fl⟩) : ByteArray).size = (placeT ⟨fn, fp, fl⟩).length := str_size _
  have j1 : (⟨#[32, 32, 101, 100, 103, 101, 32]⟩ : ByteArray) ++ str (placeT ⟨fn, fp, fl⟩) = str ([32, 32, 101, 100, 103, 101, 32] ++ (placeT ⟨fn, fp, fl⟩)) := str_app _ _
  have s2a : (str ([32, 32, 101, 100, 103, 101, 32] ++ (placeT ⟨fn, fp, fl⟩)) : ByteArray).size = ([32, 32, 101, 100, 103, 101, 32] ++ (placeT ⟨fn, fp, fl⟩)).length := str_size _
  have j2 : (str ([32, 32, 101, 100, 103, 101, 32] ++ (placeT ⟨fn, fp, fl⟩)) : ByteArray) ++ ⟨#[32, 45, 62, 32]⟩ = str ([32, 32, 101, 100, 103, 101, 32] ++ (placeT ⟨fn, fp, fl⟩) ++ [32, 45, 62, 32]) := str_app _ _
  have s3a : (str ([32, 32, 101, 100, 103, 101, 32] ++ (placeT ⟨fn, fp, fl⟩) ++ [32, 45, 62, 32]) : ByteArray).size = ([32, 32, 101, 100, 103, 101, 32] ++ (placeT ⟨fn, fp, fl⟩) ++ [32, 45, 62, 32]).length := str_size _
  have s3b : (str (placeT ⟨tn, tp, tl⟩) : ByteArray).size = (placeT ⟨tn, tp, tl⟩).length := str_size _
  have j3 : (str ([32, 32, 101, 100, 103, 101, 32] ++ (placeT ⟨fn, fp, fl⟩) ++ [32, 45, 62, 32]) : ByteArray) ++ str (placeT ⟨tn, tp, tl⟩) = str ([32, 32, 101, 100, 103, 101, 32] ++ (placeT ⟨fn, fp, fl⟩) ++ [32, 45, 62, 32] ++ (placeT ⟨tn, tp, tl⟩)) := str_app _ _
  rw [← hHD] at j3
  have z1 : ¬ (9223372036854775807 < 7 + (str (placeT ⟨fn, fp, fl⟩) : ByteArray).size) := by rw [s1b]; omega
  have z2 : ¬ (9223372036854775807 < (str ([32, 32, 101, 100, 103, 101, 32] ++ (placeT ⟨fn, fp, fl⟩))).size + 4) := by rw [s2a]; simp; omega
  have z3 : ¬ (9223372036854775807 < (str ([32, 32, 101, 100, 103, 101, 32] ++ (placeT ⟨fn, fp, fl⟩) ++ [32, 45, 62, 32])).size + (str (placeT ⟨tn, tp, tl⟩) : ByteArray).size) := by rw [s3a, s3b]; simp; omega
  have HHD := hidden hHD
  clear s1b s2a s3a s3b hHD hpf hpt q1 q2 q3 q4 q5 q6 q7 hb hBu ht hbA hr
  obtain ⟨n, hn⟩ : ∃ n, ns.length = n := ⟨_, rfl⟩
  have hn0 : ¬ ((0 : Int) < (n : Int)) := by rw [hw] at hn; simp at hn; omega
  rw [hn] at HNS HBA HU0 HK0 HX0 ⊢
  clear hn hw
  generalize str ([32, 32, 101, 100, 103, 101, 32] ++ (placeT ⟨fn, fp, fl⟩)) = M1 at *
  generalize str ([32, 32, 101, 100, 103, 101, 32] ++ (placeT ⟨fn, fp, fl⟩) ++ [32, 45, 62, 32]) = M2 at *
  generalize str HD = M3 at *
  go_enter Tryz.func114, Tryz.ntmps114
  go_wp2
  refine wp_region_gen [10] (fun d i u z => match i with
      | 0 => z = .pointer (some ⟨b, 0, none⟩)
      | 1 => z = .pointer (some ⟨W.heap.size, 4, none⟩)
      | 2 => z = .agg #[.string (str fn), .int .i64 fp, .int .i64 fl]
      | 3 => z = .string (str (placeT ⟨fn, fp, fl⟩))
      | 4 => z = .string M1
      | 5 => z = .string M2
      | 6 => z = .pointer (some ⟨W.heap.size, 7, none⟩)
      | 7 => z = .agg #[.string (str tn), .int .i64 tp, .int .i64 tl]
      | 8 => z = .string (str (placeT ⟨tn, tp, tl⟩))
      | 9 => z = .string M3
      | 10 => True
      | _ => True) (fun d u => Blk 103 W.heap.size u #[.int .u8 2, .string (str nm), .string (str tg), .slice a n c, .string (str fn), .int .i64 fp, .int .i64 fl, .string (str tn), .int .i64 tp, .int .i64 tl, .int .i64 pl] ∧ Below w0.heap.size w0 u ∧ (d 10 = false → Lib.IsBuilder 187 5 w0.heap.size b (Lib.byteCells tx) u) ∧ (d 10 = true → Lib.IsBuilder 187 5 w0.heap.size b (Lib.byteCells (tx ++ HD)) u) ∧ Keeps W u) (by kernel_rfl) (by kernel_rfl) (by kernel_rfl) ?_ ?_ ?_ ?_ ?_ ?_ (by kernel_rfl)
  · intro d i w v w' h hb
    match i, h with
    | 0, h => exact h
    | 1, h => exact h
    | 2, h => exact h
    | 3, h => exact h
    | 4, h => exact h
    | 5, h => exact h
    | 6, h => exact h
    | 7, h => exact h
    | 8, h => exact h
    | 9, h => exact h
    | 10, h => exact h
    | _ + 11, _ => trivial
  · intro d u u' h hb
    exact ⟨h.1.below hb, h.2.1.trans (hb.mono h.2.1.size), fun h1 => isB_below (h.2.2.1 h1) hb, fun h1 => isB_below (h.2.2.2.1 h1) hb, h.2.2.2.2.trans (keeps_below hb)⟩
  · exact ⟨HX0.out, HBA.out, fun _ => HU0.out, fun h => absurd h (by decide), HK0.out⟩
  · intro d i o ρ w' hm ho hf hg hC hcs hfs hfr hdep
    match i, hm, ho, hf, hg, hfr, hdep with
    | 0, _, ho, hf, hg, hfr, hdep =>
      simp only [gTA, gCZ, gSI] at ho
      subst ho
      refine ⟨fun _ => ?_, fun hw => absurd (show true = false from hw) (by decide)⟩
      have ts : ρ (.tmp 0) = .pointer (some ⟨b, 0, none⟩) := hfr 0 (by kernel_rfl)
      simp [go_sem, ts]
      exact ⟨Below.refl _ _, rfl⟩
    | 1, _, ho, hf, hg, hfr, hdep =>
      simp only [gTA, gCZ, gCS, gSI] at ho
      subst ho
      refine ⟨fun _ => ?_, fun hw => absurd (show true = false from hw) (by decide)⟩
      have tq : ρ (.tmp 3) = .pointer (some ⟨W.heap.size, 0, none⟩) := hfr 3 (by kernel_rfl)
      simp [go_sem, tq]
      exact ⟨Below.refl _ _, rfl⟩
    | 2, _, ho, hf, hg, hfr, hdep =>
      simp only [gTA, gCZ, gCS, gSI] at ho
      subst ho
      refine ⟨fun _ => ?_, fun hw => absurd (show true = false from hw) (by decide)⟩
      have tq : ρ (.tmp 20) = .pointer (some ⟨W.heap.size, 4, none⟩) := hdep 1 20 (by kernel_rfl) (by kernel_rfl)
      have c0 : w'.cell? ⟨W.heap.size, 4, none⟩ = some (.string (str fn)) := hC.1.cell (k := 4) rfl
      have c1 : w'.cell? ⟨W.heap.size, 5, none⟩ = some (.int .i64 fp) := hC.1.cell (k := 5) rfl
      have c2 : w'.cell? ⟨W.heap.size, 6, none⟩ = some (.int .i64 fl) := hC.1.cell (k := 6) rfl
      simp [go_sem, tq, c0, c1, c2]
      exact ⟨Below.refl _ _, rfl⟩
    | 3, _, ho, hf, hg, hfr, hdep =>
      simp only [gTA, gCZ, gCS, gSI] at ho
      subst ho
      refine ⟨fun _ => ?_, fun hw => absurd (show true = false from hw) (by decide)⟩
      have tq : ρ (.tmp 21) = .agg #[.string (str fn), .int .i64 fp, .int .i64 fl] := hdep 2 21 (by kernel_rfl) (by kernel_rfl)
      simp [go_sem, tq, hfs]
      exact ⟨rfl, (HPF.out w' hC.2.1).mono fun e u h => ⟨_, h.1, h.2, rfl⟩⟩
    | 4, _, ho, hf, hg, hfr, hdep =>
      simp only [gTA, gCZ, gCS, gSI] at ho
      subst ho
      refine ⟨fun _ => ?_, fun hw => absurd (show true = false from hw) (by decide)⟩
      have d0 : ρ (.tmp 22) = .string (str (placeT ⟨fn, fp, fl⟩)) := hdep 3 22 (by kernel_rfl) (by kernel_rfl)
      simp [go_sem, hcs, d0, z1, j1]
      exact ⟨Below.refl _ _, rfl⟩
    | 5, _, ho, hf, hg, hfr, hdep =>
      simp only [gTA, gCZ, gCS, gSI] at ho
      subst ho
      refine ⟨fun _ => ?_, fun hw => absurd (show true = false from hw) (by decide)⟩
      have d0 : ρ (.tmp 23) = .string (M1) := hdep 4 23 (by kernel_rfl) (by kernel_rfl)
      simp [go_sem, hcs, d0, z2, j2]
      exact ⟨Below.refl _ _, rfl⟩
    | 6, _, ho, hf, hg, hfr, hdep =>
      simp only [gTA, gCZ, gCS, gSI] at ho
      subst ho
      refine ⟨fun _ => ?_, fun hw => absurd (show true = false from hw) (by decide)⟩
      have tq : ρ (.tmp 3) = .pointer (some ⟨W.heap.size, 0, none⟩) := hfr 3 (by kernel_rfl)
      simp [go_sem, tq]
      exact ⟨Below.refl _ _, rfl⟩
    | 7, _, ho, hf, hg, hfr, hdep =>
      simp only [gTA, gCZ, gCS, gSI] at ho
      subst ho
      refine ⟨fun _ => ?_, fun hw => absurd (show true = false from hw) (by decide)⟩
      have tq : ρ (.tmp 25) = .pointer (some ⟨W.heap.size, 7, none⟩) := hdep 6 25 (by kernel_rfl) (by kernel_rfl)
      have c0 : w'.cell? ⟨W.heap.size, 7, none⟩ = some (.string (str tn)) := hC.1.cell (k := 7) rfl
      have c1 : w'.cell? ⟨W.heap.size, 8, none⟩ = some (.int .i64 tp) := hC.1.cell (k := 8) rfl
      have c2 : w'.cell? ⟨W.heap.size, 9, none⟩ = some (.int .i64 tl) := hC.1.cell (k := 9) rfl
      simp [go_sem, tq, c0, c1, c2]
      exact ⟨Below.refl _ _, rfl⟩
    | 8, _, ho, hf, hg, hfr, hdep =>
      simp only [gTA, gCZ, gCS, gSI] at ho
      subst ho
      refine ⟨fun _ => ?_, fun hw => absurd (show true = false from hw) (by decide)⟩
      have tq : ρ (.tmp 26) = .agg #[.string (str tn), .int .i64 tp, .int .i64 tl] := hdep 7 26 (by kernel_rfl) (by kernel_rfl)
      simp [go_sem, tq, hfs]
      exact ⟨rfl, (HPT.out w' hC.2.1).mono fun e u h => ⟨_, h.1, h.2, rfl⟩⟩
    | 9, _, ho, hf, hg, hfr, hdep =>
      simp only [gTA, gCZ, gCS, gSI] at ho
      subst ho
      refine ⟨fun _ => ?_, fun hw => absurd (show true = false from hw) (by decide)⟩
      have d0 : ρ (.tmp 24) = .string (M2) := hdep 5 24 (by kernel_rfl) (by kernel_rfl)
      have d1 : ρ (.tmp 27) = .string (str (placeT ⟨tn, tp, tl⟩)) := hdep 8 27 (by kernel_rfl) (by kernel_rfl)
      simp [go_sem, d0, d1, z3, j3]
      exact ⟨Below.refl _ _, rfl⟩
    | 10, hm, _, _, _, _, _ => exact absurd hm (by decide)
    | n + 11, _, ho, _, _, _, _ => simp at ho
  · intro d i o ρ w' hm ho h0 hf hg hC hcs hfs hfr hdep
    match i, hm, ho, h0, hf, hg, hfr, hdep with
    | 0, hm, _, _, _, _, _, _ => exact absurd hm (by decide)
    | 1, hm, _, _, _, _, _, _ => exact absurd hm (by decide)
    | 2, hm, _, _, _, _, _, _ => exact absurd hm (by decide)
    | 3, hm, _, _, _, _, _, _ => exact absurd hm (by decide)
    | 4, hm, _, _, _, _, _, _ => exact absurd hm (by decide)
    | 5, hm, _, _, _, _, _, _ => exact absurd hm (by decide)
    | 6, hm, _, _, _, _, _, _ => exact absurd hm (by decide)
    | 7, hm, _, _, _, _, _, _ => exact absurd hm (by decide)
    | 8, hm, _, _, _, _, _, _ => exact absurd hm (by decide)
    | 9, hm, _, _, _, _, _, _ => exact absurd hm (by decide)
    | 10, _, ho, h0, hf, hg, hfr, hdep =>
      simp only [gTA, gCZ, gCS, gSI] at ho
      subst ho
      refine ⟨rfl, ?_⟩
      have t1 : ρ (.tmp 19) = .pointer (some ⟨b, 0, none⟩) := hdep 0 19 (by kernel_rfl) (by kernel_rfl)
      have t2 : ρ (.tmp 28) = .string M3 := hdep 9 28 (by kernel_rfl) (by kernel_rfl)
      simp [go_sem, t1, t2, hfs]
      refine ⟨rfl, (HW1.out _ hC.2.1 (hC.2.2.1 h0)).mono ?_⟩
      rintro e u ⟨⟨z, rfl⟩, hbu, hbe, hkk⟩
      exact ⟨_, rfl, hkk _ _ _ (by decide) (by decide) hC.1, hbe, fun h => absurd h (by simp [doneAt]), fun _ => hbu, hC.2.2.2.2.trans hkk⟩
    | n + 11, _, ho, _, _, _, _, _ => simp at ho
  · intro V w9 hC9 hS
    simp only [puts]
    simp only [Act.put, List.setIfInBounds_toArray, List.set_cons_zero, List.set_cons_succ]
    clear hS 
    have B2 := hidden hC9.2.1
    have U2 := hidden (hC9.2.2.2.1 rfl)
    have K2 := hidden hC9.2.2.2.2
    have d3 : w9.cell? ⟨W.heap.size, 3, none⟩ = some (.slice a n c) := hC9.1.cell (k := 3) rfl
    have L2 : Hid ((tx ++ HD).length ≤ 1048690) := by have := HHL.out; show _ ≤ _; simp; omega
    clear hC9
    go_wp2_with (first
      | (go_at_call 112; (with_reducible refine (HEN.out _ _ B3.out U3.out L3.out).mono ?_); rintro e w4 ⟨⟨z4, rfl⟩, hu, hbe, hkk⟩; have B4 := hidden hbe; have U4 := hidden hu; have K4 := hidden (K3.out.trans hkk); clear hu hbe hkk)
      | (go_at_call 158; (with_reducible refine (HNS.out _ _ B2.out U2.out (by have := HHL.out; have := L2.out; omega)).mono ?_); rintro e w3 ⟨rfl, t3, hu, hbe, hex, hle, hkk⟩; have B3 := hidden hbe; have U3 := hidden hu; have K3 := hidden (K2.out.trans hkk); have X3 := hidden hex; have L3 := hidden hle; clear hu hbe hkk hex hle))
    go_end0
    refine ⟨rfl, _, U4.out, B4.out, ?_, by have := L3.out; simp; omega, K4.out⟩
    have f1 : Ext tx (HD ++ []) (tx ++ HD) := by
      have := Ext.all tx (HD ++ [])
      rwa [List.append_nil] at this ⊢
    have f2 := (f1.trans X3.out).trans (Ext.all t3 [59, 10])
    rw [HHD.out] at f2
    exact f2
set_option maxRecDepth 100000 in
set_option maxHeartbeats 4000000 in
theorem wItem_3 (b : Nat) (w0 W : World) (x : Itm_k) (a : Option Addr) (c : Nat) (tx : List UInt8) (hx : Neat x) (hr : IntsAt_k w0 (.slice a x.nums.length c) x.nums) (ht : Tab w0.heap.size w0) (hb : Below w0.heap.size w0 W) (hBu : Lib.IsBuilder 187 5 w0.heap.size b (Lib.byteCells tx) W) (hl : tx.length ≤ 1048576) (hnl : x.nums.length ≤ 17592186044416) (hk : x.kind = 3) :
    Calls Tryz.prog 114 #[.pointer (some ⟨b, 0, none⟩), .agg (itC_k x.kind x.name x.tag (.slice a x.nums.length c) x.frm x.to x.place)] W (WItem b w0 W tx (itemT x)) := by
  have HHD : headT x = [32, 32, 105, 110, 32] ++ x.name ++ [32, 45, 62, 32] ++ placeT x.to := by unfold headT; rw [if_neg (by rw [hk]; decide), if_neg (by rw [hk]; decide), if_pos hk]
  have HWT : withT x = [] := by unfold withT; rw [if_neg (fun h => by rw [hk] at h; exact absurd h.1 (by decide))]
  have HIT : itemT x = headT x ++ withT x ++ numsT x.nums ++ [59, 10] := rfl
  rw [HHD, HWT] at HIT
  rw [HIT]
  clear HIT HHD HWT
  obtain ⟨-, q1, q2, q3, q4, q5, q6, q7⟩ := hx
  have hpf := place_len x.frm q3 q5
  have hpt := place_len x.to q4 q6
  obtain ⟨ki, nm, tg, ns, ⟨fn, fp, fl⟩, ⟨tn, tp, tl⟩, pl⟩ := x
  unfold itC_k
  simp only at hk q1 q2 q3 q4 q5 q6 q7 hpf hpt hr hnl ⊢
  subst hk
  have HNS : Hid (∀ (w1 : World) (t1 : List UInt8), Below w0.heap.size w0 w1 → Lib.IsBuilder 187 5 w0.heap.size b (Lib.byteCells t1) w1 → t1.length ≤ 1048776 → Calls Tryz.prog 158 #[.pointer (some ⟨b, 0, none⟩), .slice a ns.length c] w1 fun e w' => e = .returned (.tuple #[]) ∧ ∃ tx', Lib.IsBuilder 187 5 w0.heap.size b (Lib.byteCells tx') w' ∧ Below w0.heap.size w0 w' ∧ Ext t1 (numsT ns) tx' ∧ tx'.length ≤ 1048800 ∧ Keeps w1 w') := fun w1 t1 h1 h2 h3 => writeNumbers_any b w0 w1 _ ns t1 hr ht h1 h2 q7 hnl h3
  have HEN : Hid (∀ (w1 : World) (t1 : List UInt8), Below w0.heap.size w0 w1 → Lib.IsBuilder 187 5 w0.heap.size b (Lib.byteCells t1) w1 → t1.length ≤ 1048800 → Calls Tryz.prog 112 #[.pointer (some ⟨b, 0, none⟩), .string ⟨#[59, 10]⟩] w1 (Wrote b w0 w1 (t1 ++ [59, 10]))) := fun w1 t1 h1 h2 h3 => wrote b w0 w1 [59, 10] t1 h1 h2 (by decide) (by omega)
  have hbA := (Below.refl W.heap.size W).alloc (Nat.le_refl _) (.cells #[.int .u8 3, .string (str nm), .string (str tg), .slice a ns.length c, .string (str fn), .int .i64 fp, .int .i64 fl, .string (str tn), .int .i64 tp, .int .i64 tl, .int .i64 pl] 103)
  have HBA : Hid (Below w0.heap.size w0 (W.alloc (.cells #[.int .u8 3, .string (str nm), .string (str tg), .slice a ns.length c, .string (str fn), .int .i64 fp, .int .i64 fl, .string (str tn), .int .i64 tp, .int .i64 tl, .int .i64 pl] 103))) := hb.trans (hbA.mono hb.size)
  have HU0 := hidden (isB_below hBu hbA)
  have HK0 := hidden (keeps_below hbA)
  have HX0 := hidden (blk_new 103 W #[.int .u8 3, .string (str nm), .string (str tg), .slice a ns.length c, .string (str fn), .int .i64 fp, .int .i64 fl, .string (str tn), .int .i64 tp, .int .i64 tl, .int .i64 pl])
  obtain ⟨HD, hHD⟩ : ∃ HD, HD = [32, 32, 105, 110, 32] ++ nm ++ [32, 45, 62, 32] ++ (placeT ⟨tn, tp, tl⟩) := ⟨_, rfl⟩
  have HHL : Hid (HD.length ≤ 100) := by show _ ≤ _; rw [hHD]; simp; omega
  have HW1 : Hid (∀ (w1 : World), Below w0.heap.size w0 w1 → Lib.IsBuilder 187 5 w0.heap.size b (Lib.byteCells tx) w1 → Calls Tryz.prog 112 #[.pointer (some ⟨b, 0, none⟩), .string (str HD)] w1 (Wrote b w0 w1 (tx ++ HD))) := fun w1 h1 h2 => wrote b w0 w1 HD tx h1 h2 (by have := HHL.out; omega) (by omega)
  have HPT : Hid (∀ w1, Below w0.heap.size w0 w1 → Calls Tryz.prog 157 #[.agg #[.string (str tn), .int .i64 tp, .int .i64 tl]] w1 fun e w' => e = .returned (.string (str (placeT ⟨tn, tp, tl⟩))) ∧ Below w1.heap.size w1 w') := fun w1 h1 => placeForm_any ⟨tn, tp, tl⟩ w1 q4 q6.1 q6.2 _ w0 ht h1 h1.size
  have s1b : (str nm : ByteArray).size = (nm).length := str_size _
  have j1 : (⟨#[32, 32, 105, 110, 32]⟩ : ByteArray) ++ str nm = str ([32, 32, 105, 110, 32] ++ nm) := str_app _ _
  have s2a : (str ([32, 32, 105, 110, 32] ++ nm) : ByteArray).size = ([32, 32, 105, 110, 32] ++ nm).length := str_size _
  have j2 : (str ([32, 32, 105, 110, 32] ++ nm) : ByteArray) ++ ⟨#[32, 45, 62, 32]⟩ = str ([32, 32, 105, 110, 32] ++ nm ++ [32, 45, 62, 32]) := str_app _ _
  have s3a : (str ([32, 32, 105, 110, 32] ++ nm ++ [32, 45, 62, 32]) : ByteArray).size = ([32, 32, 105, 110, 32] ++ nm ++ [32, 45, 62, 32]).length := str_size _
  have s3b : (str (placeT ⟨tn, tp, tl⟩) : ByteArray).size = (placeT ⟨tn, tp, tl⟩).length := str_size _
  have j3 : (str ([32, 32, 105, 110, 32] ++ nm ++ [32, 45, 62, 32]) : ByteArray) ++ str (placeT ⟨tn, tp, tl⟩) = str ([32, 32, 105, 110, 32] ++ nm ++ [32, 45, 62, 32] ++ (placeT ⟨tn, tp, tl⟩)) := str_app _ _
  rw [← hHD] at j3
  have z1 : ¬ (9223372036854775807 < 5 + (str nm : ByteArray).size) := by rw [s1b]; omega
  have z2 : ¬ (9223372036854775807 < (str ([32, 32, 105, 110, 32] ++ nm)).size + 4) := by rw [s2a]; simp; omega
  have z3 : ¬ (9223372036854775807 < (str ([32, 32, 105, 110, 32] ++ nm ++ [32, 45, 62, 32])).size + (str (placeT ⟨tn, tp, tl⟩) : ByteArray).size) := by rw [s3a, s3b]; simp; omega
  have HHD := hidden hHD
  clear s1b s2a s3a s3b hHD hpf hpt q1 q2 q3 q4 q5 q6 q7 hb hBu ht hbA hr
  obtain ⟨n, hn⟩ : ∃ n, ns.length = n := ⟨_, rfl⟩
  rw [hn] at HNS HBA HU0 HK0 HX0 ⊢
  clear hn
  generalize str ([32, 32, 105, 110, 32] ++ nm) = M1 at *
  generalize str ([32, 32, 105, 110, 32] ++ nm ++ [32, 45, 62, 32]) = M2 at *
  generalize str HD = M3 at *
  go_enter Tryz.func114, Tryz.ntmps114
  go_wp2
  refine wp_region_gen [9] (fun d i u z => match i with
      | 0 => z = .pointer (some ⟨b, 0, none⟩)
      | 1 => z = .pointer (some ⟨W.heap.size, 1, none⟩)
      | 2 => z = .string (str nm)
      | 3 => z = .string M1
      | 4 => z = .string M2
      | 5 => z = .pointer (some ⟨W.heap.size, 7, none⟩)
      | 6 => z = .agg #[.string (str tn), .int .i64 tp, .int .i64 tl]
      | 7 => z = .string (str (placeT ⟨tn, tp, tl⟩))
      | 8 => z = .string M3
      | 9 => True
      | _ => True) (fun d u => Blk 103 W.heap.size u #[.int .u8 3, .string (str nm), .string (str tg), .slice a n c, .string (str fn), .int .i64 fp, .int .i64 fl, .string (str tn), .int .i64 tp, .int .i64 tl, .int .i64 pl] ∧ Below w0.heap.size w0 u ∧ (d 9 = false → Lib.IsBuilder 187 5 w0.heap.size b (Lib.byteCells tx) u) ∧ (d 9 = true → Lib.IsBuilder 187 5 w0.heap.size b (Lib.byteCells (tx ++ HD)) u) ∧ Keeps W u) (by kernel_rfl) (by kernel_rfl) (by kernel_rfl) ?_ ?_ ?_ ?_ ?_ ?_ (by kernel_rfl)
  · intro d i w v w' h hb
    match i, h with
    | 0, h => exact h
    | 1, h => exact h
    | 2, h => exact h
    | 3, h => exact h
    | 4, h => exact h
    | 5, h => exact h
    | 6, h => exact h
    | 7, h => exact h
    | 8, h => exact h
    | 9, h => exact h
    | _ + 10, _ => trivial
  · intro d u u' h hb
    exact ⟨h.1.below hb, h.2.1.trans (hb.mono h.2.1.size), fun h1 => isB_below (h.2.2.1 h1) hb, fun h1 => isB_below (h.2.2.2.1 h1) hb, h.2.2.2.2.trans (keeps_below hb)⟩
  · exact ⟨HX0.out, HBA.out, fun _ => HU0.out, fun h => absurd h (by decide), HK0.out⟩
  · intro d i o ρ w' hm ho hf hg hC hcs hfs hfr hdep
    match i, hm, ho, hf, hg, hfr, hdep with
    | 0, _, ho, hf, hg, hfr, hdep =>
      simp only [gTA, gCZ, gSI] at ho
      subst ho
      refine ⟨fun _ => ?_, fun hw => absurd (show true = false from hw) (by decide)⟩
      have ts : ρ (.tmp 0) = .pointer (some ⟨b, 0, none⟩) := hfr 0 (by kernel_rfl)
      simp [go_sem, ts]
      exact ⟨Below.refl _ _, rfl⟩
    | 1, _, ho, hf, hg, hfr, hdep =>
      simp only [gTA, gCZ, gCS, gSI] at ho
      subst ho
      refine ⟨fun _ => ?_, fun hw => absurd (show true = false from hw) (by decide)⟩
      have tq : ρ (.tmp 3) = .pointer (some ⟨W.heap.size, 0, none⟩) := hfr 3 (by kernel_rfl)
      simp [go_sem, tq]
      exact ⟨Below.refl _ _, rfl⟩
    | 2, _, ho, hf, hg, hfr, hdep =>
      simp only [gTA, gCZ, gCS, gSI] at ho
      subst ho
      refine ⟨fun _ => ?_, fun hw => absurd (show true = false from hw) (by decide)⟩
      have tq : ρ (.tmp 39) = .pointer (some ⟨W.heap.size, 1, none⟩) := hdep 1 39 (by kernel_rfl) (by kernel_rfl)
      have c0 : w'.cell? ⟨W.heap.size, 1, none⟩ = some (.string (str nm)) := hC.1.cell (k := 1) rfl
      simp [go_sem, tq, c0]
      exact ⟨Below.refl _ _, rfl⟩
    | 3, _, ho, hf, hg, hfr, hdep =>
      simp only [gTA, gCZ, gCS, gSI] at ho
      subst ho
      refine ⟨fun _ => ?_, fun hw => absurd (show true = false from hw) (by decide)⟩
      have d0 : ρ (.tmp 40) = .string (str nm) := hdep 2 40 (by kernel_rfl) (by kernel_rfl)
      simp [go_sem, hcs, d0, z1, j1]
      exact ⟨Below.refl _ _, rfl⟩
    | 4, _, ho, hf, hg, hfr, hdep =>
      simp only [gTA, gCZ, gCS, gSI] at ho
      subst ho
      refine ⟨fun _ => ?_, fun hw => absurd (show true = false from hw) (by decide)⟩
      have d0 : ρ (.tmp 41) = .string (M1) := hdep 3 41 (by kernel_rfl) (by kernel_rfl)
      simp [go_sem, hcs, d0, z2, j2]
      exact ⟨Below.refl _ _, rfl⟩
    | 5, _, ho, hf, hg, hfr, hdep =>
      simp only [gTA, gCZ, gCS, gSI] at ho
      subst ho
      refine ⟨fun _ => ?_, fun hw => absurd (show true = false from hw) (by decide)⟩
      have tq : ρ (.tmp 3) = .pointer (some ⟨W.heap.size, 0, none⟩) := hfr 3 (by kernel_rfl)
      simp [go_sem, tq]
      exact ⟨Below.refl _ _, rfl⟩
    | 6, _, ho, hf, hg, hfr, hdep =>
      simp only [gTA, gCZ, gCS, gSI] at ho
      subst ho
      refine ⟨fun _ => ?_, fun hw => absurd (show true = false from hw) (by decide)⟩
      have tq : ρ (.tmp 43) = .pointer (some ⟨W.heap.size, 7, none⟩) := hdep 5 43 (by kernel_rfl) (by kernel_rfl)
      have c0 : w'.cell? ⟨W.heap.size, 7, none⟩ = some (.string (str tn)) := hC.1.cell (k := 7) rfl
      have c1 : w'.cell? ⟨W.heap.size, 8, none⟩ = some (.int .i64 tp) := hC.1.cell (k := 8) rfl
      have c2 : w'.cell? ⟨W.heap.size, 9, none⟩ = some (.int .i64 tl) := hC.1.cell (k := 9) rfl
      simp [go_sem, tq, c0, c1, c2]
      exact ⟨Below.refl _ _, rfl⟩
    | 7, _, ho, hf, hg, hfr, hdep =>
      simp only [gTA, gCZ, gCS, gSI] at ho
      subst ho
      refine ⟨fun _ => ?_, fun hw => absurd (show true = false from hw) (by decide)⟩
      have tq : ρ (.tmp 44) = .agg #[.string (str tn), .int .i64 tp, .int .i64 tl] := hdep 6 44 (by kernel_rfl) (by kernel_rfl)
      simp [go_sem, tq, hfs]
      exact ⟨rfl, (HPT.out w' hC.2.1).mono fun e u h => ⟨_, h.1, h.2, rfl⟩⟩
    | 8, _, ho, hf, hg, hfr, hdep =>
      simp only [gTA, gCZ, gCS, gSI] at ho
      subst ho
      refine ⟨fun _ => ?_, fun hw => absurd (show true = false from hw) (by decide)⟩
      have d0 : ρ (.tmp 42) = .string (M2) := hdep 4 42 (by kernel_rfl) (by kernel_rfl)
      have d1 : ρ (.tmp 45) = .string (str (placeT ⟨tn, tp, tl⟩)) := hdep 7 45 (by kernel_rfl) (by kernel_rfl)
      simp [go_sem, d0, d1, z3, j3]
      exact ⟨Below.refl _ _, rfl⟩
    | 9, hm, _, _, _, _, _ => exact absurd hm (by decide)
    | n + 10, _, ho, _, _, _, _ => simp at ho
  · intro d i o ρ w' hm ho h0 hf hg hC hcs hfs hfr hdep
    match i, hm, ho, h0, hf, hg, hfr, hdep with
    | 0, hm, _, _, _, _, _, _ => exact absurd hm (by decide)
    | 1, hm, _, _, _, _, _, _ => exact absurd hm (by decide)
    | 2, hm, _, _, _, _, _, _ => exact absurd hm (by decide)
    | 3, hm, _, _, _, _, _, _ => exact absurd hm (by decide)
    | 4, hm, _, _, _, _, _, _ => exact absurd hm (by decide)
    | 5, hm, _, _, _, _, _, _ => exact absurd hm (by decide)
    | 6, hm, _, _, _, _, _, _ => exact absurd hm (by decide)
    | 7, hm, _, _, _, _, _, _ => exact absurd hm (by decide)
    | 8, hm, _, _, _, _, _, _ => exact absurd hm (by decide)
    | 9, _, ho, h0, hf, hg, hfr, hdep =>
      simp only [gTA, gCZ, gCS, gSI] at ho
      subst ho
      refine ⟨rfl, ?_⟩
      have t1 : ρ (.tmp 38) = .pointer (some ⟨b, 0, none⟩) := hdep 0 38 (by kernel_rfl) (by kernel_rfl)
      have t2 : ρ (.tmp 46) = .string M3 := hdep 8 46 (by kernel_rfl) (by kernel_rfl)
      simp [go_sem, t1, t2, hfs]
      refine ⟨rfl, (HW1.out _ hC.2.1 (hC.2.2.1 h0)).mono ?_⟩
      rintro e u ⟨⟨z, rfl⟩, hbu, hbe, hkk⟩
      exact ⟨_, rfl, hkk _ _ _ (by decide) (by decide) hC.1, hbe, fun h => absurd h (by simp [doneAt]), fun _ => hbu, hC.2.2.2.2.trans hkk⟩
    | n + 10, _, ho, _, _, _, _, _ => simp at ho
  · intro V w9 hC9 hS
    simp only [puts]
    simp only [Act.put, List.setIfInBounds_toArray, List.set_cons_zero, List.set_cons_succ]
    clear hS 
    have B2 := hidden hC9.2.1
    have U2 := hidden (hC9.2.2.2.1 rfl)
    have K2 := hidden hC9.2.2.2.2
    have d3 : w9.cell? ⟨W.heap.size, 3, none⟩ = some (.slice a n c) := hC9.1.cell (k := 3) rfl
    have L2 : Hid ((tx ++ HD).length ≤ 1048690) := by have := HHL.out; show _ ≤ _; simp; omega
    clear hC9
    go_wp2_with (first
      | (go_at_call 112; (with_reducible refine (HEN.out _ _ B3.out U3.out L3.out).mono ?_); rintro e w4 ⟨⟨z4, rfl⟩, hu, hbe, hkk⟩; have B4 := hidden hbe; have U4 := hidden hu; have K4 := hidden (K3.out.trans hkk); clear hu hbe hkk)
      | (go_at_call 158; (with_reducible refine (HNS.out _ _ B2.out U2.out (by have := HHL.out; have := L2.out; omega)).mono ?_); rintro e w3 ⟨rfl, t3, hu, hbe, hex, hle, hkk⟩; have B3 := hidden hbe; have U3 := hidden hu; have K3 := hidden (K2.out.trans hkk); have X3 := hidden hex; have L3 := hidden hle; clear hu hbe hkk hex hle))
    go_end0
    refine ⟨rfl, _, U4.out, B4.out, ?_, by have := L3.out; simp; omega, K4.out⟩
    have f1 : Ext tx (HD ++ []) (tx ++ HD) := by
      have := Ext.all tx (HD ++ [])
      rwa [List.append_nil] at this ⊢
    have f2 := (f1.trans X3.out).trans (Ext.all t3 [59, 10])
    rw [HHD.out] at f2
    exact f2
set_option maxRecDepth 100000 in
set_option maxHeartbeats 4000000 in
theorem wItem_4 (b : Nat) (w0 W : World) (x : Itm_k) (a : Option Addr) (c : Nat) (tx : List UInt8) (hx : Neat x) (hr : IntsAt_k w0 (.slice a x.nums.length c) x.nums) (ht : Tab w0.heap.size w0) (hb : Below w0.heap.size w0 W) (hBu : Lib.IsBuilder 187 5 w0.heap.size b (Lib.byteCells tx) W) (hl : tx.length ≤ 1048576) (hnl : x.nums.length ≤ 17592186044416) (hk : x.kind = 4) :
    Calls Tryz.prog 114 #[.pointer (some ⟨b, 0, none⟩), .agg (itC_k x.kind x.name x.tag (.slice a x.nums.length c) x.frm x.to x.place)] W (WItem b w0 W tx (itemT x)) := by
  have HHD : headT x = [32, 32, 111, 117, 116, 32] ++ placeT x.frm ++ [32, 45, 62, 32] ++ x.name := by unfold headT; rw [if_neg (by rw [hk]; decide), if_neg (by rw [hk]; decide), if_neg (by rw [hk]; decide)]
  have HWT : withT x = [] := by unfold withT; rw [if_neg (fun h => by rw [hk] at h; exact absurd h.1 (by decide))]
  have HIT : itemT x = headT x ++ withT x ++ numsT x.nums ++ [59, 10] := rfl
  rw [HHD, HWT] at HIT
  rw [HIT]
  clear HIT HHD HWT
  obtain ⟨-, q1, q2, q3, q4, q5, q6, q7⟩ := hx
  have hpf := place_len x.frm q3 q5
  have hpt := place_len x.to q4 q6
  obtain ⟨ki, nm, tg, ns, ⟨fn, fp, fl⟩, ⟨tn, tp, tl⟩, pl⟩ := x
  unfold itC_k
  simp only at hk q1 q2 q3 q4 q5 q6 q7 hpf hpt hr hnl ⊢
  subst hk
  have HNS : Hid (∀ (w1 : World) (t1 : List UInt8), Below w0.heap.size w0 w1 → Lib.IsBuilder 187 5 w0.heap.size b (Lib.byteCells t1) w1 → t1.length ≤ 1048776 → Calls Tryz.prog 158 #[.pointer (some ⟨b, 0, none⟩), .slice a ns.length c] w1 fun e w' => e = .returned (.tuple #[]) ∧ ∃ tx', Lib.IsBuilder 187 5 w0.heap.size b (Lib.byteCells tx') w' ∧ Below w0.heap.size w0 w' ∧ Ext t1 (numsT ns) tx' ∧ tx'.length ≤ 1048800 ∧ Keeps w1 w') := fun w1 t1 h1 h2 h3 => writeNumbers_any b w0 w1 _ ns t1 hr ht h1 h2 q7 hnl h3
  have HEN : Hid (∀ (w1 : World) (t1 : List UInt8), Below w0.heap.size w0 w1 → Lib.IsBuilder 187 5 w0.heap.size b (Lib.byteCells t1) w1 → t1.length ≤ 1048800 → Calls Tryz.prog 112 #[.pointer (some ⟨b, 0, none⟩), .string ⟨#[59, 10]⟩] w1 (Wrote b w0 w1 (t1 ++ [59, 10]))) := fun w1 t1 h1 h2 h3 => wrote b w0 w1 [59, 10] t1 h1 h2 (by decide) (by omega)
  have hbA := (Below.refl W.heap.size W).alloc (Nat.le_refl _) (.cells #[.int .u8 4, .string (str nm), .string (str tg), .slice a ns.length c, .string (str fn), .int .i64 fp, .int .i64 fl, .string (str tn), .int .i64 tp, .int .i64 tl, .int .i64 pl] 103)
  have HBA : Hid (Below w0.heap.size w0 (W.alloc (.cells #[.int .u8 4, .string (str nm), .string (str tg), .slice a ns.length c, .string (str fn), .int .i64 fp, .int .i64 fl, .string (str tn), .int .i64 tp, .int .i64 tl, .int .i64 pl] 103))) := hb.trans (hbA.mono hb.size)
  have HU0 := hidden (isB_below hBu hbA)
  have HK0 := hidden (keeps_below hbA)
  have HX0 := hidden (blk_new 103 W #[.int .u8 4, .string (str nm), .string (str tg), .slice a ns.length c, .string (str fn), .int .i64 fp, .int .i64 fl, .string (str tn), .int .i64 tp, .int .i64 tl, .int .i64 pl])
  obtain ⟨HD, hHD⟩ : ∃ HD, HD = [32, 32, 111, 117, 116, 32] ++ (placeT ⟨fn, fp, fl⟩) ++ [32, 45, 62, 32] ++ nm := ⟨_, rfl⟩
  have HHL : Hid (HD.length ≤ 100) := by show _ ≤ _; rw [hHD]; simp; omega
  have HW1 : Hid (∀ (w1 : World), Below w0.heap.size w0 w1 → Lib.IsBuilder 187 5 w0.heap.size b (Lib.byteCells tx) w1 → Calls Tryz.prog 112 #[.pointer (some ⟨b, 0, none⟩), .string (str HD)] w1 (Wrote b w0 w1 (tx ++ HD))) := fun w1 h1 h2 => wrote b w0 w1 HD tx h1 h2 (by have := HHL.out; omega) (by omega)
  have HPF : Hid (∀ w1, Below w0.heap.size w0 w1 → Calls Tryz.prog 157 #[.agg #[.string (str fn), .int .i64 fp, .int .i64 fl]] w1 fun e w' => e = .returned (.string (str (placeT ⟨fn, fp, fl⟩))) ∧ Below w1.heap.size w1 w') := fun w1 h1 => placeForm_any ⟨fn, fp, fl⟩ w1 q3 q5.1 q5.2 _ w0 ht h1 h1.size
  have s1b : (str (placeT ⟨fn, fp, fl⟩) : ByteArray).size = (placeT ⟨fn, fp, fl⟩).length := str_size _
  have j1 : (⟨#[32, 32, 111, 117, 116, 32]⟩ : ByteArray) ++ str (placeT ⟨fn, fp, fl⟩) = str ([32, 32, 111, 117, 116, 32] ++ (placeT ⟨fn, fp, fl⟩)) := str_app _ _
  have s2a : (str ([32, 32, 111, 117, 116, 32] ++ (placeT ⟨fn, fp, fl⟩)) : ByteArray).size = ([32, 32, 111, 117, 116, 32] ++ (placeT ⟨fn, fp, fl⟩)).length := str_size _
  have j2 : (str ([32, 32, 111, 117, 116, 32] ++ (placeT ⟨fn, fp, fl⟩)) : ByteArray) ++ ⟨#[32, 45, 62, 32]⟩ = str ([32, 32, 111, 117, 116, 32] ++ (placeT ⟨fn, fp, fl⟩) ++ [32, 45, 62, 32]) := str_app _ _
  have s3a : (str ([32, 32, 111, 117, 116, 32] ++ (placeT ⟨fn, fp, fl⟩) ++ [32, 45, 62, 32]) : ByteArray).size = ([32, 32, 111, 117, 116, 32] ++ (placeT ⟨fn, fp, fl⟩) ++ [32, 45, 62, 32]).length := str_size _
  have s3b : (str nm : ByteArray).size = (nm).length := str_size _
  have j3 : (str ([32, 32, 111, 117, 116, 32] ++ (placeT ⟨fn, fp, fl⟩) ++ [32, 45, 62, 32]) : ByteArray) ++ str nm = str ([32, 32, 111, 117, 116, 32] ++ (placeT ⟨fn, fp, fl⟩) ++ [32, 45, 62, 32] ++ nm) := str_app _ _
  rw [← hHD] at j3
  have z1 : ¬ (9223372036854775807 < 6 + (str (placeT ⟨fn, fp, fl⟩) : ByteArray).size) := by rw [s1b]; omega
  have z2 : ¬ (9223372036854775807 < (str ([32, 32, 111, 117, 116, 32] ++ (placeT ⟨fn, fp, fl⟩))).size + 4) := by rw [s2a]; simp; omega
  have z3 : ¬ (9223372036854775807 < (str ([32, 32, 111, 117, 116, 32] ++ (placeT ⟨fn, fp, fl⟩) ++ [32, 45, 62, 32])).size + (str nm : ByteArray).size) := by rw [s3a, s3b]; simp; omega
  have HHD := hidden hHD
  clear s1b s2a s3a s3b hHD hpf hpt q1 q2 q3 q4 q5 q6 q7 hb hBu ht hbA hr
  obtain ⟨n, hn⟩ : ∃ n, ns.length = n := ⟨_, rfl⟩
  rw [hn] at HNS HBA HU0 HK0 HX0 ⊢
  clear hn
  generalize str ([32, 32, 111, 117, 116, 32] ++ (placeT ⟨fn, fp, fl⟩)) = M1 at *
  generalize str ([32, 32, 111, 117, 116, 32] ++ (placeT ⟨fn, fp, fl⟩) ++ [32, 45, 62, 32]) = M2 at *
  generalize str HD = M3 at *
  go_enter Tryz.func114, Tryz.ntmps114
  go_wp2
  refine wp_region_gen [9] (fun d i u z => match i with
      | 0 => z = .pointer (some ⟨b, 0, none⟩)
      | 1 => z = .pointer (some ⟨W.heap.size, 4, none⟩)
      | 2 => z = .agg #[.string (str fn), .int .i64 fp, .int .i64 fl]
      | 3 => z = .string (str (placeT ⟨fn, fp, fl⟩))
      | 4 => z = .string M1
      | 5 => z = .string M2
      | 6 => z = .pointer (some ⟨W.heap.size, 1, none⟩)
      | 7 => z = .string (str nm)
      | 8 => z = .string M3
      | 9 => True
      | _ => True) (fun d u => Blk 103 W.heap.size u #[.int .u8 4, .string (str nm), .string (str tg), .slice a n c, .string (str fn), .int .i64 fp, .int .i64 fl, .string (str tn), .int .i64 tp, .int .i64 tl, .int .i64 pl] ∧ Below w0.heap.size w0 u ∧ (d 9 = false → Lib.IsBuilder 187 5 w0.heap.size b (Lib.byteCells tx) u) ∧ (d 9 = true → Lib.IsBuilder 187 5 w0.heap.size b (Lib.byteCells (tx ++ HD)) u) ∧ Keeps W u) (by kernel_rfl) (by kernel_rfl) (by kernel_rfl) ?_ ?_ ?_ ?_ ?_ ?_ (by kernel_rfl)
  · intro d i w v w' h hb
    match i, h with
    | 0, h => exact h
    | 1, h => exact h
    | 2, h => exact h
    | 3, h => exact h
    | 4, h => exact h
    | 5, h => exact h
    | 6, h => exact h
    | 7, h => exact h
    | 8, h => exact h
    | 9, h => exact h
    | _ + 10, _ => trivial
  · intro d u u' h hb
    exact ⟨h.1.below hb, h.2.1.trans (hb.mono h.2.1.size), fun h1 => isB_below (h.2.2.1 h1) hb, fun h1 => isB_below (h.2.2.2.1 h1) hb, h.2.2.2.2.trans (keeps_below hb)⟩
  · exact ⟨HX0.out, HBA.out, fun _ => HU0.out, fun h => absurd h (by decide), HK0.out⟩
  · intro d i o ρ w' hm ho hf hg hC hcs hfs hfr hdep
    match i, hm, ho, hf, hg, hfr, hdep with
    | 0, _, ho, hf, hg, hfr, hdep =>
      simp only [gTA, gCZ, gSI] at ho
      subst ho
      refine ⟨fun _ => ?_, fun hw => absurd (show true = false from hw) (by decide)⟩
      have ts : ρ (.tmp 0) = .pointer (some ⟨b, 0, none⟩) := hfr 0 (by kernel_rfl)
      simp [go_sem, ts]
      exact ⟨Below.refl _ _, rfl⟩
    | 1, _, ho, hf, hg, hfr, hdep =>
      simp only [gTA, gCZ, gCS, gSI] at ho
      subst ho
      refine ⟨fun _ => ?_, fun hw => absurd (show true = false from hw) (by decide)⟩
      have tq : ρ (.tmp 3) = .pointer (some ⟨W.heap.size, 0, none⟩) := hfr 3 (by kernel_rfl)
      simp [go_sem, tq]
      exact ⟨Below.refl _ _, rfl⟩
    | 2, _, ho, hf, hg, hfr, hdep =>
      simp only [gTA, gCZ, gCS, gSI] at ho
      subst ho
      refine ⟨fun _ => ?_, fun hw => absurd (show true = false from hw) (by decide)⟩
      have tq : ρ (.tmp 51) = .pointer (some ⟨W.heap.size, 4, none⟩) := hdep 1 51 (by kernel_rfl) (by kernel_rfl)
      have c0 : w'.cell? ⟨W.heap.size, 4, none⟩ = some (.string (str fn)) := hC.1.cell (k := 4) rfl
      have c1 : w'.cell? ⟨W.heap.size, 5, none⟩ = some (.int .i64 fp) := hC.1.cell (k := 5) rfl
      have c2 : w'.cell? ⟨W.heap.size, 6, none⟩ = some (.int .i64 fl) := hC.1.cell (k := 6) rfl
      simp [go_sem, tq, c0, c1, c2]
      exact ⟨Below.refl _ _, rfl⟩
    | 3, _, ho, hf, hg, hfr, hdep =>
      simp only [gTA, gCZ, gCS, gSI] at ho
      subst ho
      refine ⟨fun _ => ?_, fun hw => absurd (show true = false from hw) (by decide)⟩
      have tq : ρ (.tmp 52) = .agg #[.string (str fn), .int .i64 fp, .int .i64 fl] := hdep 2 52 (by kernel_rfl) (by kernel_rfl)
      simp [go_sem, tq, hfs]
      exact ⟨rfl, (HPF.out w' hC.2.1).mono fun e u h => ⟨_, h.1, h.2, rfl⟩⟩
    | 4, _, ho, hf, hg, hfr, hdep =>
      simp only [gTA, gCZ, gCS, gSI] at ho
      subst ho
      refine ⟨fun _ => ?_, fun hw => absurd (show true = false from hw) (by decide)⟩
      have d0 : ρ (.tmp 53) = .string (str (placeT ⟨fn, fp, fl⟩)) := hdep 3 53 (by kernel_rfl) (by kernel_rfl)
      simp [go_sem, hcs, d0, z1, j1]
      exact ⟨Below.refl _ _, rfl⟩
    | 5, _, ho, hf, hg, hfr, hdep =>
      simp only [gTA, gCZ, gCS, gSI] at ho
      subst ho
      refine ⟨fun _ => ?_, fun hw => absurd (show true = false from hw) (by decide)⟩
      have d0 : ρ (.tmp 54) = .string (M1) := hdep 4 54 (by kernel_rfl) (by kernel_rfl)
      simp [go_sem, hcs, d0, z2, j2]
      exact ⟨Below.refl _ _, rfl⟩
    | 6, _, ho, hf, hg, hfr, hdep =>
      simp only [gTA, gCZ, gCS, gSI] at ho
      subst ho
      refine ⟨fun _ => ?_, fun hw => absurd (show true = false from hw) (by decide)⟩
      have tq : ρ (.tmp 3) = .pointer (some ⟨W.heap.size, 0, none⟩) := hfr 3 (by kernel_rfl)
      simp [go_sem, tq]
      exact ⟨Below.refl _ _, rfl⟩
    | 7, _, ho, hf, hg, hfr, hdep =>
      simp only [gTA, gCZ, gCS, gSI] at ho
      subst ho
      refine ⟨fun _ => ?_, fun hw => absurd (show true = false from hw) (by decide)⟩
      have tq : ρ (.tmp 56) = .pointer (some ⟨W.heap.size, 1, none⟩) := hdep 6 56 (by kernel_rfl) (by kernel_rfl)
      have c0 : w'.cell? ⟨W.heap.size, 1, none⟩ = some (.string (str nm)) := hC.1.cell (k := 1) rfl
      simp [go_sem, tq, c0]
      exact ⟨Below.refl _ _, rfl⟩
    | 8, _, ho, hf, hg, hfr, hdep =>
      simp only [gTA, gCZ, gCS, gSI] at ho
      subst ho
      refine ⟨fun _ => ?_, fun hw => absurd (show true = false from hw) (by decide)⟩
      have d0 : ρ (.tmp 55) = .string (M2) := hdep 5 55 (by kernel_rfl) (by kernel_rfl)
      have d1 : ρ (.tmp 57) = .string (str nm) := hdep 7 57 (by kernel_rfl) (by kernel_rfl)
      simp [go_sem, d0, d1, z3, j3]
      exact ⟨Below.refl _ _, rfl⟩
    | 9, hm, _, _, _, _, _ => exact absurd hm (by decide)
    | n + 10, _, ho, _, _, _, _ => simp at ho
  · intro d i o ρ w' hm ho h0 hf hg hC hcs hfs hfr hdep
    match i, hm, ho, h0, hf, hg, hfr, hdep with
    | 0, hm, _, _, _, _, _, _ => exact absurd hm (by decide)
    | 1, hm, _, _, _, _, _, _ => exact absurd hm (by decide)
    | 2, hm, _, _, _, _, _, _ => exact absurd hm (by decide)
    | 3, hm, _, _, _, _, _, _ => exact absurd hm (by decide)
    | 4, hm, _, _, _, _, _, _ => exact absurd hm (by decide)
    | 5, hm, _, _, _, _, _, _ => exact absurd hm (by decide)
    | 6, hm, _, _, _, _, _, _ => exact absurd hm (by decide)
    | 7, hm, _, _, _, _, _, _ => exact absurd hm (by decide)
    | 8, hm, _, _, _, _, _, _ => exact absurd hm (by decide)
    | 9, _, ho, h0, hf, hg, hfr, hdep =>
      simp only [gTA, gCZ, gCS, gSI] at ho
      subst ho
      refine ⟨rfl, ?_⟩
      have t1 : ρ (.tmp 50) = .pointer (some ⟨b, 0, none⟩) := hdep 0 50 (by kernel_rfl) (by kernel_rfl)
      have t2 : ρ (.tmp 58) = .string M3 := hdep 8 58 (by kernel_rfl) (by kernel_rfl)
      simp [go_sem, t1, t2, hfs]
      refine ⟨rfl, (HW1.out _ hC.2.1 (hC.2.2.1 h0)).mono ?_⟩
      rintro e u ⟨⟨z, rfl⟩, hbu, hbe, hkk⟩
      exact ⟨_, rfl, hkk _ _ _ (by decide) (by decide) hC.1, hbe, fun h => absurd h (by simp [doneAt]), fun _ => hbu, hC.2.2.2.2.trans hkk⟩
    | n + 10, _, ho, _, _, _, _, _ => simp at ho
  · intro V w9 hC9 hS
    simp only [puts]
    simp only [Act.put, List.setIfInBounds_toArray, List.set_cons_zero, List.set_cons_succ]
    clear hS 
    have B2 := hidden hC9.2.1
    have U2 := hidden (hC9.2.2.2.1 rfl)
    have K2 := hidden hC9.2.2.2.2
    have d3 : w9.cell? ⟨W.heap.size, 3, none⟩ = some (.slice a n c) := hC9.1.cell (k := 3) rfl
    have L2 : Hid ((tx ++ HD).length ≤ 1048690) := by have := HHL.out; show _ ≤ _; simp; omega
    clear hC9
    go_wp2_with (first
      | (go_at_call 112; (with_reducible refine (HEN.out _ _ B3.out U3.out L3.out).mono ?_); rintro e w4 ⟨⟨z4, rfl⟩, hu, hbe, hkk⟩; have B4 := hidden hbe; have U4 := hidden hu; have K4 := hidden (K3.out.trans hkk); clear hu hbe hkk)
      | (go_at_call 158; (with_reducible refine (HNS.out _ _ B2.out U2.out (by have := HHL.out; have := L2.out; omega)).mono ?_); rintro e w3 ⟨rfl, t3, hu, hbe, hex, hle, hkk⟩; have B3 := hidden hbe; have U3 := hidden hu; have K3 := hidden (K2.out.trans hkk); have X3 := hidden hex; have L3 := hidden hle; clear hu hbe hkk hex hle))
    go_end0
    refine ⟨rfl, _, U4.out, B4.out, ?_, by have := L3.out; simp; omega, K4.out⟩
    have f1 : Ext tx (HD ++ []) (tx ++ HD) := by
      have := Ext.all tx (HD ++ [])
      rwa [List.append_nil] at this ⊢
    have f2 := (f1.trans X3.out).trans (Ext.all t3 [59, 10])
    rw [HHD.out] at f2
    exact f2
theorem writeItem_any (b : Nat) (w0 W : World) (x : Itm_k) (a : Option Addr) (c : Nat) (tx : List UInt8) (hx : Neat x) (hr : IntsAt_k w0 (.slice a x.nums.length c) x.nums) (ht : Tab w0.heap.size w0) (hb : Below w0.heap.size w0 W) (hBu : Lib.IsBuilder 187 5 w0.heap.size b (Lib.byteCells tx) W) (hl : tx.length ≤ 1048576) (hnl : x.nums.length ≤ 17592186044416) :
    Calls Tryz.prog 114 #[.pointer (some ⟨b, 0, none⟩), .agg (itC_k x.kind x.name x.tag (.slice a x.nums.length c) x.frm x.to x.place)] W (WItem b w0 W tx (itemT x)) := by
  rcases hx.kind with h | h | h | h
  · exact wItem_1 b w0 W x a c tx hx hr ht hb hBu hl hnl h
  · by_cases hw : x.nums = []
    · exact wItem_2n b w0 W x a c tx hx hr ht hb hBu hl hnl h hw
    · exact wItem_2y b w0 W x a c tx hx hr ht hb hBu hl hnl h hw
  · exact wItem_3 b w0 W x a c tx hx hr ht hb hBu hl hnl h
  · exact wItem_4 b w0 W x a c tx hx hr ht hb hBu hl hnl h
theorem Ext.more {tx a t1 : List UInt8} (h : Ext tx a t1) (hm : 1048576 < t1.length) (b : List UInt8) : Ext tx (a ++ b) t1 := by
  refine ⟨h.le, Or.inr ⟨hm, ?_⟩⟩
  rcases h.is with rfl | ⟨-, q⟩
  · simp at hm ⊢; omega
  · simp at q ⊢; omega
def itemsT (L : List (Itm_k × Value)) : List UInt8 := L.flatMap fun p => itemT p.1
theorem items_take {L : List (Itm_k × Value)} {k : Nat} (h : k < L.length) : itemsT (L.take (k + 1)) = itemsT (L.take k) ++ itemT (nthI_k L k).1 := by
  unfold itemsT nthI_k
  rw [List.take_add_one, List.getElem?_eq_getElem h, List.flatMap_append, List.getD_eq_getElem?_getD, List.getElem?_eq_getElem h]
  simp
theorem items_split (L : List (Itm_k × Value)) (k : Nat) : itemsT L = itemsT (L.take k) ++ itemsT (L.drop k) := by
  unfold itemsT
  rw [← List.flatMap_append, List.take_append_drop]
def headS (nm : List UInt8) : List UInt8 := [103, 114, 97, 112, 104, 32] ++ nm ++ [32, 123, 10]
/-- The one form of a sketch. -/
def formT (nm : List UInt8) (L : List (Itm_k × Value)) : List UInt8 := headS nm ++ itemsT L ++ [125, 10]
theorem sketch_done {nm : List UInt8} {L : List (Itm_k × Value)} {tx : List UInt8} (h : Ext (headS nm) (itemsT L ++ [125, 10]) tx) : tx = formT nm L ∨ (1048576 < tx.length ∧ 1048576 < (formT nm L).length) := by
  have e : headS nm ++ (itemsT L ++ [125, 10]) = formT nm L := by unfold formT; rw [List.append_assoc]
  rcases h.is with h1 | h1
  · exact Or.inl (by rw [h1, e])
  · exact Or.inr (by rw [e] at h1; exact h1)
set_option maxRecDepth 100000 in
set_option maxHeartbeats 4000000 in
theorem sketchForm_any (nm : List UInt8) (a : Option Addr) (n c : Nat) (L : List (Itm_k × Value)) (W : World) (hn : L.length = n) (h : ItR_k W a L) (hl : n ≤ 2000000) (hnm : nm.length ≤ 16) (hne : ∀ p ∈ L, Neat p.1 ∧ p.1.nums.length ≤ 17592186044416) (ht : Tab W.heap.size W) :
    Calls Tryz.prog 68 #[.agg #[.string (str nm), .slice a n c]] W fun e w' => ∃ tx, e = .returned (.string (str tx)) ∧ Below W.heap.size W w' ∧ (tx = formT nm L ∨ (1048576 < tx.length ∧ 1048576 < (formT nm L).length)) ∧ tx.length ≤ 1048902 := by
  have hb0 := (Below.refl W.heap.size W).alloc (Nat.le_refl _) (.cells #[.string (str nm), .slice a n c] 52)
  have hR0 := h.below hb0
  have hT0 : Tab (W.alloc (.cells #[.string (str nm), .slice a n c] 52)).heap.size (W.alloc (.cells #[.string (str nm), .slice a n c] 52)) := fun w' h' => ht w' (hb0.trans (h'.mono hb0.size))
  have hK0 := blk_new 52 W #[.string (str nm), .slice a n c]
  obtain ⟨w0, hw0⟩ : ∃ w0, w0 = W.alloc (.cells #[.string (str nm), .slice a n c] 52) := ⟨_, rfl⟩
  rw [← hw0] at hb0 hR0 hT0 hK0
  have hsz : w0.heap.size = W.heap.size + 1 := by rw [hw0]; simp
  have hbb := (Below.refl w0.heap.size w0).alloc (Nat.le_refl _) (.cells #[.pointer none, .slice none 0 0] 187)
  have HBB := hidden hbb
  have HU0 : Hid (Lib.IsBuilder 187 5 w0.heap.size (W.heap.size + 1) (Lib.byteCells []) (w0.alloc (.cells #[.pointer none, .slice none 0 0] 187))) := by
    show Lib.IsBuilder _ _ _ _ _ _
    rw [← hsz]
    exact Or.inl ⟨Nat.le_refl _, _, by show (w0.heap.push _)[w0.heap.size]? = _; simp, World.ownsRow_nil _ _ _ _, by intro e; cases e⟩
  have HB0 := hidden hb0
  have HR0 := hidden hR0
  have HT0 := hidden hT0
  have HK0 := hidden hK0
  have HNE := hidden hne
  have hI : (n : Int) ≤ 2000000 := by omega
  have z1 : ¬ (9223372036854775807 < 6 + (str nm).size) := by rw [str_size]; omega
  have z2 : ¬ (9223372036854775807 < (str ([103, 114, 97, 112, 104, 32] ++ nm)).size + 3) := by rw [str_size]; simp; omega
  have j1 : (⟨#[103, 114, 97, 112, 104, 32]⟩ : ByteArray) ++ str nm = str ([103, 114, 97, 112, 104, 32] ++ nm) := str_app _ _
  have j2 : str ([103, 114, 97, 112, 104, 32] ++ nm) ++ (⟨#[32, 123, 10]⟩ : ByteArray) = str (headS nm) := str_app _ _
  have HHL : Hid ((headS nm).length ≤ 100) := by show _ ≤ _; unfold headS; simp; omega
  have HW1 : Hid (∀ w1, Below w0.heap.size w0 w1 → Lib.IsBuilder 187 5 w0.heap.size (W.heap.size + 1) (Lib.byteCells []) w1 → Calls Tryz.prog 112 #[.pointer (some ⟨W.heap.size + 1, 0, none⟩), .string (str (headS nm))] w1 (Wrote (W.heap.size + 1) w0 w1 ([] ++ headS nm))) := fun w1 h1 h2 => wrote _ w0 w1 (headS nm) [] h1 h2 (by have := HHL.out; omega) (by simp)
  have HW9 : Hid (∀ w1 t1, Below w0.heap.size w0 w1 → Lib.IsBuilder 187 5 w0.heap.size (W.heap.size + 1) (Lib.byteCells t1) w1 → t1.length ≤ 1048900 → Calls Tryz.prog 112 #[.pointer (some ⟨W.heap.size + 1, 0, none⟩), .string ⟨#[125, 10]⟩] w1 (Wrote (W.heap.size + 1) w0 w1 (t1 ++ [125, 10]))) := fun w1 t1 h1 h2 h3 => wrote _ w0 w1 [125, 10] t1 h1 h2 (by decide) (by omega)
  have HSTR : Hid (∀ w1 t1, Lib.IsBuilder 187 5 w0.heap.size (W.heap.size + 1) (Lib.byteCells t1) w1 → t1 ≠ [] → Calls Tryz.prog 115 #[.pointer (some ⟨W.heap.size + 1, 0, none⟩)] w1 fun e w' => e = .returned (.string (str t1)) ∧ Below w0.heap.size w1 w') := fun w1 t1 h1 h2 => Go.Proofs.Tryz.Builder_String w0.heap.size (W.heap.size + 1) t1 w1 h1 h2
  have HLENC : Hid (∀ w1 t1, Lib.IsBuilder 187 5 w0.heap.size (W.heap.size + 1) (Lib.byteCells t1) w1 → Calls Tryz.prog 113 #[.pointer (some ⟨W.heap.size + 1, 0, none⟩)] w1 fun e w' => e = .returned (.int .i64 (t1.length : Int)) ∧ w' = w1) := fun w1 t1 h1 => by
    have := Go.Proofs.Tryz.Builder_Len w0.heap.size (W.heap.size + 1) (Lib.byteCells t1) w1 h1
    rw [byte_cells] at this
    exact this
  have HFIN : Hid (∀ tx, Ext (headS nm) (itemsT L) tx → Ext (headS nm) (itemsT L ++ [125, 10]) (tx ++ [125, 10])) := fun tx h => h.trans (Ext.all _ _)
  generalize str ([103, 114, 97, 112, 104, 32] ++ nm) = M1 at *
  generalize str (headS nm) = M2 at *
  clear h hb0 hR0 hT0 hK0 hbb hne ht
  have HSZ := hidden hsz
  have hBs : w0.heap.size = W.heap.size + 1 := hsz
  clear hsz
  subst hw0
  go_enter Tryz.func68, Tryz.ntmps68
  go_wp2_with (go_at_call 112; (with_reducible refine (HW1.out _ HBB.out HU0.out).mono ?_); rintro e w2 ⟨⟨z2, rfl⟩, hu, hbe, -⟩; have U2 := hidden hu; have B2 := hidden hbe; have d1 : w2.cell? ⟨W.heap.size, 1, none⟩ = some (.slice a n c) := (hbe.cell (p := ⟨W.heap.size, 1, none⟩) HK0.out.lt).trans (HK0.out.cell (k := 1) rfl); clear hu hbe)
  go_loopg [14] n (fun gk v wr => ∃ (k : Nat) (t1 : List UInt8), k ≤ n ∧ gk = n - k ∧ v = .int .i64 (k : Int) ∧ Lib.IsBuilder 187 5 (W.alloc (.cells #[.string (str nm), .slice a n c] 52)).heap.size (W.heap.size + 1) (Lib.byteCells t1) wr ∧ Below (W.alloc (.cells #[.string (str nm), .slice a n c] 52)).heap.size (W.alloc (.cells #[.string (str nm), .slice a n c] 52)) wr ∧ Ext (headS nm) (itemsT (L.take k)) t1 ∧ t1.length ≤ 1048900)
  case atStart => exact ⟨0, headS nm, Nat.zero_le _, rfl, rfl, U2.out, B2.out, ⟨Nat.le_refl _, Or.inl (by simp [itemsT])⟩, by have := HHL.out; omega⟩
  case round =>
    obtain ⟨k, t1, hk, rfl, rfl, hbu, hbe, hex, hl1⟩ := hrel
    have HBU := hidden hbu
    have HBE := hidden hbe
    have HEX := hidden hex
    have HL1 := hidden hl1
    have HIT := hidden (HR0.out.below hbe)
    clear hbu hbe hex U2 B2
    by_cases hlt : k < n
    · have hki : (k : Int) < (n : Int) := by omega
      rcases HIT.out.lie with e | ⟨g, off, rfl, hc⟩
      · rw [e] at hn; simp at hn; omega
      obtain ⟨c0, c1, c2, c3, c4, c5, c6, c7, c8, c9, c10⟩ := hc k (by omega)
      have hmem := nthI_mem_k (L := L) (k := k) (by omega)
      obtain ⟨a1, k1, e2, hrow⟩ := HR0.out.nums _ hmem
      rw [e2] at c3
      have HNX := hidden (HNE.out _ hmem)
      have HTK := hidden (items_take (L := L) (k := k) (by omega))
      have HIN : Hid (IntsAt_k (W.alloc (.cells #[.string (str nm), .slice (some ⟨g, off, none⟩) n c] 52)) (.slice a1 (nthI_k L k).1.nums.length k1) (nthI_k L k).1.nums) := ⟨a1, k1, rfl, hrow⟩
      have HSP := hidden (items_split L k)
      clear hc hmem e2 hrow
      generalize (nthI_k L k).1 = x at *
      have hbA := (Below.refl wr.heap.size wr).alloc (Nat.le_refl _) (.cells #[.int .u8 x.kind, .string (str x.name), .string (str x.tag), .slice a1 x.nums.length k1, .string (str x.frm.name), .int .i64 x.frm.port, .int .i64 x.frm.place, .string (str x.to.name), .int .i64 x.to.port, .int .i64 x.to.place, .int .i64 x.place] 103)
      have UA := hidden (isB_below HBU.out hbA)
      have BA := hidden (HBE.out.trans (hbA.mono HBE.out.size))
      have hlI : (t1.length : Int) ≤ 1048900 := by omega
      clear hbA
      by_cases hbig : 1048576 < t1.length
      · have hbi : (1048576 : Int) < (t1.length : Int) := by omega
        have HE2 : Hid (Ext (headS nm) (itemsT L) t1) := by show Ext _ _ _; rw [HSP.out]; exact HEX.out.more hbig _
        go_wp2_with (first
          | (go_at_call 115; (with_reducible refine (HSTR.out _ _ U8.out (by simp)).mono ?_); rintro e w9 ⟨rfl, hbe⟩; have B9 := hidden (B8.out.trans hbe); clear hbe)
          | (go_at_call 112; (with_reducible refine (HW9.out _ _ BA.out UA.out HL1.out).mono ?_); rintro e w8 ⟨⟨z8, rfl⟩, hu, hbe, -⟩; have U8 := hidden hu; have B8 := hidden hbe; clear hu hbe)
          | (go_at_call 113; (with_reducible refine (HLENC.out _ _ UA.out).mono ?_); rintro e w5 ⟨rfl, rfl⟩))
        go_ret
        exact ⟨_, rfl, HB0.out.trans (B9.out.mono (by omega)), sketch_done (HFIN.out _ HE2.out), by simp; omega⟩
      · have hbi : ¬ ((1048576 : Int) < (t1.length : Int)) := by omega
        have HWI : Hid (∀ w1, Below (W.alloc (.cells #[.string (str nm), .slice (some ⟨g, off, none⟩) n c] 52)).heap.size (W.alloc (.cells #[.string (str nm), .slice (some ⟨g, off, none⟩) n c] 52)) w1 → Lib.IsBuilder 187 5 (W.alloc (.cells #[.string (str nm), .slice (some ⟨g, off, none⟩) n c] 52)).heap.size (W.heap.size + 1) (Lib.byteCells t1) w1 → Calls Tryz.prog 114 #[.pointer (some ⟨W.heap.size + 1, 0, none⟩), .agg #[.int .u8 x.kind, .string (str x.name), .string (str x.tag), .slice a1 x.nums.length k1, .string (str x.frm.name), .int .i64 x.frm.port, .int .i64 x.frm.place, .string (str x.to.name), .int .i64 x.to.port, .int .i64 x.to.place, .int .i64 x.place]] w1 (WItem (W.heap.size + 1) (W.alloc (.cells #[.string (str nm), .slice (some ⟨g, off, none⟩) n c] 52)) w1 t1 (itemT x))) := fun w1 h1 h2 => writeItem_any _ (W.alloc (.cells #[.string (str nm), .slice (some ⟨g, off, none⟩) n c] 52)) w1 x a1 k1 t1 HNX.out.1 HIN.out HT0.out h1 h2 (by omega) HNX.out.2
        go_wp2_with (first
          | (go_at_call 114; (with_reducible refine (HWI.out _ BA.out UA.out).mono ?_); rintro e w6 ⟨rfl, t2, hu, hbe, hex, hle, -⟩; have U6 := hidden hu; have B6 := hidden hbe; have X6 := hidden (HEX.out.trans hex); have L6 := hidden hle; clear hu hbe hex hle)
          | (go_at_call 113; (with_reducible refine (HLENC.out _ _ UA.out).mono ?_); rintro e w5 ⟨rfl, rfl⟩))
        go_roundg (n - (k + 1))
        case measure => omega
        case rel => exact ⟨k + 1, t2, by omega, rfl, by go_num, U6.out, B6.out, by rw [HTK.out]; exact X6.out, L6.out⟩
    · have ek : k = n := by omega
      subst ek
      have hki : ¬ ((k : Int) < (k : Int)) := by omega
      have HE2 : Hid (Ext (headS nm) (itemsT L) t1) := by have := HEX.out; rw [← hn, List.take_length] at this; exact this
      go_wp2_with (first
        | (go_at_call 115; (with_reducible refine (HSTR.out _ _ U8.out (by simp)).mono ?_); rintro e w9 ⟨rfl, hbe⟩; have B9 := hidden (B8.out.trans hbe); clear hbe)
        | (go_at_call 112; (with_reducible refine (HW9.out _ _ HBE.out HBU.out HL1.out).mono ?_); rintro e w8 ⟨⟨z8, rfl⟩, hu, hbe, -⟩; have U8 := hidden hu; have B8 := hidden hbe; clear hu hbe))
      go_ret
      exact ⟨_, rfl, HB0.out.trans (B9.out.mono (by omega)), sketch_done (HFIN.out _ HE2.out), by simp; omega⟩
/-- What Print answers: the text, and the error's number. -/
def printO (nm : List UInt8) (L : List (Itm_k × Value)) : List UInt8 × Int :=
  if (rightL L && nameB nm) = true then (if 1048576 < (formT nm L).length then ([], 2) else (formT nm L, 0)) else ([], 1)
theorem name_16 {l : List UInt8} (h : nameB l = true) : l.length ≤ 16 := by
  unfold nameB at h
  rw [Bool.and_eq_true, decide_eq_true_iff] at h
  exact h.1
theorem abs_16 {p : Plc_k} (h : absB p = true) : p.name.length ≤ 16 := by
  unfold absB at h
  rw [Bool.and_eq_true, decide_eq_true_iff] at h
  rw [h.1]; simp
theorem bare_16 {x : Itm_k} (h : bareB x = true) : x.tag.length ≤ 16 := by
  unfold bareB at h
  rw [Bool.and_eq_true, decide_eq_true_iff] at h
  rw [h.1]; simp
structure Fits (x : Itm_k) : Prop where
  frm : Small x.frm.port
  to : Small x.to.port
  nums : ∀ n ∈ x.nums, Small n
  len : x.nums.length ≤ 17592186044416
theorem right_neat {x : Itm_k} (h : rightX x = true) (hs : Fits x) : Neat x := by
  unfold rightX at h
  split at h
  · rename_i hk
    simp only [Bool.and_eq_true] at h
    exact ⟨Or.inl hk, name_16 h.1, name_16 h.2.1, abs_16 h.2.2.1, abs_16 h.2.2.2, hs.frm, hs.to, hs.nums⟩
  split at h
  · rename_i hk
    simp only [Bool.and_eq_true, decide_eq_true_eq] at h
    exact ⟨Or.inr (Or.inl hk), by rw [h.1]; simp, by rw [h.2.1]; simp, name_16 h.2.2.1, name_16 h.2.2.2, hs.frm, hs.to, hs.nums⟩
  split at h
  · rename_i hk
    simp only [Bool.and_eq_true] at h
    exact ⟨Or.inr (Or.inr (Or.inl hk)), name_16 h.1, bare_16 h.2.1, abs_16 h.2.2.1, name_16 h.2.2.2, hs.frm, hs.to, hs.nums⟩
  split at h
  · rename_i hk
    simp only [Bool.and_eq_true] at h
    exact ⟨Or.inr (Or.inr (Or.inr hk)), name_16 h.1, bare_16 h.2.1, name_16 h.2.2.1, abs_16 h.2.2.2, hs.frm, hs.to, hs.nums⟩
  · cases h
set_option maxRecDepth 100000 in
set_option maxHeartbeats 4000000 in
theorem print_any (nm : List UInt8) (a : Option Addr) (n c : Nat) (L : List (Itm_k × Value)) (W : World) (hn : L.length = n) (h : ItR_k W a L) (hl : n ≤ 2000000) (hf : ∀ p ∈ L, Fits p.1) (ht : Tab W.heap.size W) :
    Calls Tryz.prog 39 #[.agg #[.string (str nm), .slice a n c]] W fun e w' => e = .returned (.tuple #[.string (str (printO nm L).1), .int .i64 (printO nm L).2]) ∧ Below W.heap.size W w' := by
  have hb0 := (Below.refl W.heap.size W).alloc (Nat.le_refl _) (.cells #[.string (str nm), .slice a n c] 52)
  have HB0 := hidden hb0
  have HK0 := hidden (blk_new 52 W #[.string (str nm), .slice a n c])
  have HRT : Hid (∀ w1, Below W.heap.size W w1 → Calls Tryz.prog 67 #[.agg #[.string (str nm), .slice a n c]] w1 fun e w' => e = .returned (.bool (rightL L && nameB nm)) ∧ Below w1.heap.size w1 w') := fun w1 h1 => rightSk_any nm a n c L w1 hn (h.below h1) hl
  cases hr : (rightL L && nameB nm) with
  | false =>
    have HE : Hid (printO nm L = ([], 1)) := by show _ = _; unfold printO; rw [hr]; rfl
    rw [hr] at HRT
    rw [HE.out]
    clear hr h hf ht hb0
    go_enter Tryz.func39, Tryz.ntmps39
    go_wp2_with (go_at_call 67; (with_reducible refine (HRT.out _ HB0.out).mono ?_); rintro e w1 ⟨rfl, hb⟩; have B1 := hidden (HB0.out.trans (hb.mono HB0.out.size)); clear hb)
    go_ret2
    exact ⟨rfl, B1.out⟩
  | true =>
    have hr' := hr
    rw [Bool.and_eq_true] at hr'
    have hnm := name_16 hr'.2
    have HOF : Hid (∀ w1, Below W.heap.size W w1 → Calls Tryz.prog 68 #[.agg #[.string (str nm), .slice a n c]] w1 fun e w' => ∃ tx, e = .returned (.string (str tx)) ∧ Below w1.heap.size w1 w' ∧ (tx = formT nm L ∨ (1048576 < tx.length ∧ 1048576 < (formT nm L).length)) ∧ tx.length ≤ 1048902) := fun w1 h1 => sketchForm_any nm a n c L w1 hn (h.below h1) hl hnm (fun p hp => ⟨right_neat (by have := hr'.1; unfold rightL at this; exact List.all_eq_true.1 this p hp) (hf p hp), (hf p hp).len⟩) (fun w' h' => ht w' (h1.trans (h'.mono h1.size)))
    rw [hr] at HRT
    by_cases hbig : 1048576 < (formT nm L).length
    · have HE : Hid (printO nm L = ([], 2)) := by show _ = _; unfold printO; rw [if_pos hr, if_pos hbig]
      rw [HE.out]
      have HO2 : Hid (∀ w1, Below W.heap.size W w1 → Calls Tryz.prog 68 #[.agg #[.string (str nm), .slice a n c]] w1 fun e w' => ∃ tx, e = .returned (.string (str tx)) ∧ Below w1.heap.size w1 w' ∧ 1048576 < tx.length ∧ tx.length ≤ 1048902) := fun w1 h1 => (HOF.out w1 h1).mono fun _ _ ⟨tx, he, hb, hx, hl⟩ => ⟨tx, he, hb, by rcases hx with rfl | hx; exact hbig; exact hx.1, hl⟩
      clear hr hr' h hf ht hb0 HOF hbig hnm
      go_enter Tryz.func39, Tryz.ntmps39
      go_wp2_with (first
        | (go_at_call 68; (with_reducible refine (HO2.out _ B1.out).mono ?_); rintro e w2 ⟨tx, rfl, hb, hx, hl2⟩; have B2 := hidden (B1.out.trans (hb.mono B1.out.size)); have s1 := str_size tx; have i1 : (1048576 : Int) < (tx.length : Int) := by { omega }; clear hb)
        | (go_at_call 67; (with_reducible refine (HRT.out _ HB0.out).mono ?_); rintro e w1 ⟨rfl, hb⟩; have B1 := hidden (HB0.out.trans (hb.mono HB0.out.size)); have k0 : w1.cell? ⟨W.heap.size, 0, none⟩ = some (.string (str nm)) := (HK0.out.below hb).cell (k := 0) rfl; have k1 : w1.cell? ⟨W.heap.size, 1, none⟩ = some (.slice a n c) := (HK0.out.below hb).cell (k := 1) rfl; clear hb))
      go_ret2
      exact ⟨rfl, B2.out⟩
    · have HE : Hid (printO nm L = (formT nm L, 0)) := by show _ = _; unfold printO; rw [if_pos hr, if_neg hbig]
      rw [HE.out]
      have HO2 : Hid (∀ w1, Below W.heap.size W w1 → Calls Tryz.prog 68 #[.agg #[.string (str nm), .slice a n c]] w1 fun e w' => e = .returned (.string (str (formT nm L))) ∧ Below w1.heap.size w1 w') := fun w1 h1 => (HOF.out w1 h1).mono fun _ _ ⟨tx, he, hb, hx, hl⟩ => by
        rcases hx with rfl | hx
        · exact ⟨he, hb⟩
        · exact absurd hx.2 hbig
      have s1 := str_size (formT nm L)
      have i1 : ¬ ((1048576 : Int) < ((formT nm L).length : Int)) := by omega
      have i2 : ((formT nm L).length : Int) ≤ 1048576 := by omega
      clear hr hr' h hf ht hb0 HOF hbig hnm
      generalize formT nm L = FT at *
      go_enter Tryz.func39, Tryz.ntmps39
      go_wp2_with (first
        | (go_at_call 68; (with_reducible refine (HO2.out _ B1.out).mono ?_); rintro e w2 ⟨rfl, hb⟩; have B2 := hidden (B1.out.trans (hb.mono B1.out.size)); clear hb)
        | (go_at_call 67; (with_reducible refine (HRT.out _ HB0.out).mono ?_); rintro e w1 ⟨rfl, hb⟩; have B1 := hidden (HB0.out.trans (hb.mono HB0.out.size)); have k0 : w1.cell? ⟨W.heap.size, 0, none⟩ = some (.string (str nm)) := (HK0.out.below hb).cell (k := 0) rfl; have k1 : w1.cell? ⟨W.heap.size, 1, none⟩ = some (.slice a n c) := (HK0.out.below hb).cell (k := 1) rfl; clear hb))
      go_ret2
      exact ⟨rfl, B2.out⟩
end Go.Proofs.YtolpelfdhcccnaaGreatDoor
