/- Texts of one chain, laid one behind the other. -/
import Derived.Test.YtokhoigpaanjeaaPartGraphSound25
import Derived.Test.YtokhoigpaanjeaaPartGraphSound4
import Derived.Deep.Cut
namespace Go.Proofs.Ytokhoigpaanjeaa
open Go.ChangeShapes Go.WideShapes Go.ChangeAt Go.RowKit
theorem str_listG (l : List UInt8) : (str l).toList = l := ByteArray.toList_mk l
def bareP (p : Plc) : Plc := ⟨p.name, p.port, 0⟩
def bareI (x : Itm) : Itm := ⟨x.kind, x.name, x.tag, x.nums, bareP x.frm, bareP x.tgt, 0⟩
set_option maxHeartbeats 1000000 in
theorem ints5 (ns : List Int) (a1 a2 : Option Addr) (k1 k2 : Nat) (w : World) (hm : ns.length ≤ 17592186044416) (h1 : IntsAt w (.slice a1 ns.length k1) ns) (h2 : IntsAt w (.slice a2 ns.length k2) ns) :
    Calls Try.prog 27 #[.slice a1 ns.length k1, .slice a2 ns.length k2] w fun e w' => e = .returned (.bool true) ∧ Below w.heap.size w w' := by
  obtain ⟨a, c, e1, h1⟩ := h1
  obtain ⟨b, d, e2, h2⟩ := h2
  cases e1
  cases e2
  obtain ⟨len, hl⟩ : ∃ n, ns.length = n := ⟨_, rfl⟩
  rw [hl] at hm ⊢
  have hee : ((len : Int) != (len : Int)) = false := by simp
  go_enter Try.func27, Try.ntmps27
  go_wp2
  go_loopw [5] (fun i wr => ∃ k n : Nat, k ≤ len ∧ wr = w.drewN n ∧ i = .int .i64 k) (fun i _ => len - (intOf i).toNat)
  case atStart => exact ⟨0, 0, Nat.zero_le _, rfl, rfl⟩
  case round =>
    obtain ⟨k, n, hk, rfl, rfl⟩ := hrel
    by_cases hlt : k < len
    · rcases h1 with h0 | ⟨g1, o1, rfl, q1⟩
      · rw [h0] at hl; simp at hl; omega
      rcases h2 with h0 | ⟨g2, o2, rfl, q2⟩
      · rw [h0] at hl; simp at hl; omega
      have c1 := q1 k (by omega)
      have c2 := q2 k (by omega)
      have hki : (k : Int) < (len : Int) := by omega
      have hnn : (ns.getD k 0 != ns.getD k 0) = false := by simp
      generalize ns.getD k 0 = x at *
      go_wp2
      go_quiet (fail)
      go_wp2
      go_roundw
      case rel => exact ⟨k + 1, n + nq, by omega, rfl, by go_num⟩
      case measure => simp [intOf]; omega
    · go_wp2
      go_ret
      exact ⟨rfl, bdrew (Below.refl _ _) n⟩
set_option maxRecDepth 100000 in
set_option maxHeartbeats 2000000 in
theorem rbare_any (x : Itm) (a : Option Addr) (n c : Nat) (w : World) : Calls Try.prog 43 #[.agg #[.int .u8 x.kind, .string (str x.name), .string (str x.tag), .slice a n c, .string (str x.frm.name), .int .i64 x.frm.port, .int .i64 x.frm.place, .string (str x.tgt.name), .int .i64 x.tgt.port, .int .i64 x.tgt.place, .int .i64 x.place]] w fun e w' => e = .returned (.agg #[.int .u8 x.kind, .string (str x.name), .string (str x.tag), .slice a n c, .string (str x.frm.name), .int .i64 x.frm.port, .int .i64 0, .string (str x.tgt.name), .int .i64 x.tgt.port, .int .i64 0, .int .i64 0]) ∧ Below w.heap.size w w' := by
  have B : Hid (∀ o1 o2, Below w.heap.size w ((w.alloc o1).alloc o2)) := fun o1 o2 => ((Below.refl _ _).alloc (Nat.le_refl _) o1).alloc (by simp) o2
  obtain ⟨ki, nm, tg, ns, ⟨fn, fp, fa⟩, ⟨tn, tp, ta⟩, pl⟩ := x
  simp only
  go_enter Try.func43, Try.ntmps43
  go_wp2
  exact bodyPost_ret (v := .agg #[.int .u8 ki, .string (str nm), .string (str tg), .slice a n c, .string (str fn), .int .i64 fp, .int .i64 0, .string (str tn), .int .i64 tp, .int .i64 0, .int .i64 0]) (by simp [results, Try.results43, go_sem]) rfl ⟨rfl, B.out _ _⟩
set_option maxRecDepth 100000 in
set_option maxHeartbeats 4000000 in
theorem rsame_any (x : Itm) (a1 a2 : Option Addr) (k1 k2 : Nat) (w : World) (hm : x.nums.length ≤ 17592186044416) (h1 : IntsAt w (.slice a1 x.nums.length k1) x.nums) (h2 : IntsAt w (.slice a2 x.nums.length k2) x.nums) :
    Calls Try.prog 42 #[.agg #[.int .u8 x.kind, .string (str x.name), .string (str x.tag), .slice a1 x.nums.length k1, .string (str x.frm.name), .int .i64 x.frm.port, .int .i64 x.frm.place, .string (str x.tgt.name), .int .i64 x.tgt.port, .int .i64 x.tgt.place, .int .i64 x.place], .agg #[.int .u8 x.kind, .string (str x.name), .string (str x.tag), .slice a2 x.nums.length k2, .string (str x.frm.name), .int .i64 x.frm.port, .int .i64 x.frm.place, .string (str x.tgt.name), .int .i64 x.tgt.port, .int .i64 x.tgt.place, .int .i64 x.place]] w fun e w' => e = .returned (.bool true) ∧ Below w.heap.size w w' := by
  have HI : Hid (∀ o1 o2, Calls Try.prog 27 #[.slice a1 x.nums.length k1, .slice a2 x.nums.length k2] ((w.alloc o1).alloc o2) fun e w' => e = .returned (.bool true) ∧ Below ((w.alloc o1).alloc o2).heap.size ((w.alloc o1).alloc o2) w') := fun o1 o2 => ints5 x.nums a1 a2 k1 k2 _ hm (h1.below (((Below.refl _ _).alloc (Nat.le_refl _) o1).alloc (by simp) o2)) (h2.below (((Below.refl _ _).alloc (Nat.le_refl _) o1).alloc (by simp) o2))
  have B : Hid (∀ o1 o2, Below w.heap.size w ((w.alloc o1).alloc o2)) := fun o1 o2 => ((Below.refl _ _).alloc (Nat.le_refl _) o1).alloc (by simp) o2
  obtain ⟨ki, nm, tg, ns, ⟨fn, fp, fa⟩, ⟨tn, tp, ta⟩, pl⟩ := x
  simp only at hm h1 h2 HI ⊢
  have q1 := str_listG nm
  have q2 := str_listG tg
  have q3 := str_listG fn
  have q4 := str_listG tn
  have r1 : (nm == nm) = true := by simp
  have r2 : (tg == tg) = true := by simp
  have r3 : (fn == fn) = true := by simp
  have r4 : (tn == tn) = true := by simp
  have r5 : (ki == ki) = true := by simp
  have r6 : (fp == fp) = true := by simp
  have r7 : (tp == tp) = true := by simp
  clear hm h1 h2
  generalize ns.length = len at *
  go_enter Try.func42, Try.ntmps42
  go_wp2_with (go_at_call 27; (with_reducible refine (HI.out _ _).mono ?_); rintro e w1 ⟨rfl, b1⟩)
  go_ret
  exact ⟨by first | rfl | simp, (B.out _ _).trans (b1.mono (B.out _ _).size)⟩
theorem bare_same {x y : Itm} (h : bareI x = bareI y) : x.kind = y.kind ∧ x.name = y.name ∧ x.tag = y.tag ∧ x.nums = y.nums ∧ x.frm.name = y.frm.name ∧ x.frm.port = y.frm.port ∧ x.tgt.name = y.tgt.name ∧ x.tgt.port = y.tgt.port := by
  unfold bareI bareP at h
  injection h with h1 h2 h3 h4 h5 h6 h7
  injection h5 with h8 h9
  injection h6 with h10 h11
  exact ⟨h1, h2, h3, h4, h8, h9, h10, h11⟩
theorem same_nth {L M : List (Itm × Value)} (h : (L.map Prod.fst).map bareI = (M.map Prod.fst).map bareI) (k : Nat) : bareI (nthI L k).1 = bareI (nthI M k).1 := by
  have h1 : ∀ N : List (Itm × Value), ((N.map Prod.fst).map bareI).getD k (bareI noItm) = bareI (nthI N k).1 := fun N => by
    unfold nthI
    rw [List.map_map, List.getD_eq_getElem?_getD, List.getD_eq_getElem?_getD, List.getElem?_map]
    cases N[k]? <;> rfl
  rw [← h1 L, ← h1 M, h]
set_option maxRecDepth 100000 in
set_option maxHeartbeats 4000000 in
theorem alike8_any (nm : List UInt8) (b1 b2 : Option Addr) (n c1 c2 : Nat) (L M : List (Itm × Value)) (w : World) (hL : L.length = n) (hM : M.length = n) (hs : (L.map Prod.fst).map bareI = (M.map Prod.fst).map bareI) (h1 : ItR w b1 L) (h2 : ItR w b2 M) (hl : n ≤ 2000000) (hf : ∀ p ∈ L, p.1.nums.length ≤ 17592186044416) :
    Calls Try.prog 17 #[.agg #[.string (str nm), .slice b1 n c1], .agg #[.string (str nm), .slice b2 n c2]] w fun e w' => e = .returned (.bool true) ∧ Below w.heap.size w w' := by
  have hb0 := ((Below.refl w.heap.size w).alloc (Nat.le_refl _) (.cells #[.string (str nm), .slice b1 n c1] 24)).alloc (by simp) (.cells #[.string (str nm), .slice b2 n c2] 24)
  have HB0 := hiddenG hb0
  have HK1 := hiddenG ((blkA_new 24 w #[.string (str nm), .slice b1 n c1]).below ((Below.refl _ _).alloc (Nat.le_refl _) (.cells #[.string (str nm), .slice b2 n c2] 24)))
  have HK2 : Hid (BlkA 24 (w.heap.size + 1) ((w.alloc (.cells #[.string (str nm), .slice b1 n c1] 24)).alloc (.cells #[.string (str nm), .slice b2 n c2] 24)) #[.string (str nm), .slice b2 n c2]) := by
    have h3 := blkA_new 24 (w.alloc (.cells #[.string (str nm), .slice b1 n c1] 24)) #[.string (str nm), .slice b2 n c2]
    have h4 : (w.alloc (.cells #[.string (str nm), .slice b1 n c1] 24)).heap.size = w.heap.size + 1 := by simp
    rw [h4] at h3
    exact h3
  have HR1 := hiddenG (h1.below hb0)
  have HR2 := hiddenG (h2.below hb0)
  have HSN := hiddenG (same_nth hs)
  have e1 := str_listG nm
  have e2 : (nm != nm) = false := by simp
  have e3 : ((n : Int) != (n : Int)) = false := by simp
  have HF := hiddenG hf
  clear h1 h2 hb0 hs hf
  go_enter Try.func17, Try.ntmps17
  go_wp2
  clear e1 e2 e3
  go_loopg [5] n (fun gk v wr => ∃ (k : Nat), k ≤ n ∧ gk = n - k ∧ v = .int .i64 (k : Int) ∧ Below w.heap.size w wr ∧ BlkA 24 w.heap.size wr #[.string (str nm), .slice b1 n c1] ∧ BlkA 24 (w.heap.size + 1) wr #[.string (str nm), .slice b2 n c2] ∧ ItR wr b1 L ∧ ItR wr b2 M)
  case atStart => exact ⟨0, Nat.zero_le _, rfl, rfl, HB0.out, HK1.out, HK2.out, HR1.out, HR2.out⟩
  case round =>
    clear HB0 HK1 HK2 HR1 HR2
    obtain ⟨k, hk, rfl, rfl, hbe, hk1, hk2, hi1, hi2⟩ := hrel
    have HBE := hiddenG hbe
    have HK1 := hiddenG hk1
    have HK2 := hiddenG hk2
    have HI1 := hiddenG hi1
    have HI2 := hiddenG hi2
    have y1 : wr.cell? ⟨w.heap.size, 1, none⟩ = some (.slice b1 n c1) := hk1.cell (k := 1) rfl
    have y2 : wr.cell? ⟨w.heap.size + 1, 1, none⟩ = some (.slice b2 n c2) := hk2.cell (k := 1) rfl
    clear hbe hk1 hk2 hi1 hi2
    by_cases hlt : k < n
    · have hki : (k : Int) < (n : Int) := by omega
      rcases HI1.out.lie with e | ⟨g1, o1, rfl, q1⟩
      · rw [e] at hL; simp at hL; omega
      rcases HI2.out.lie with e | ⟨g2, o2, rfl, q2⟩
      · rw [e] at hM; simp at hM; omega
      obtain ⟨c0, c1', c2', c3, c4, c5, c6, c7, c8, c9, c10⟩ := q1 k (by omega)
      obtain ⟨d0, d1, d2, d3, d4, d5, d6, d7, d8, d9, d10⟩ := q2 k (by omega)
      have HM1 := HI1.out.nums _ (nthI_mem (L := L) (k := k) (by omega))
      have HM2 := HI2.out.nums _ (nthI_mem (L := M) (k := k) (by omega))
      obtain ⟨a1, k1, ev1, -⟩ := id HM1
      obtain ⟨a2, k2, ev2, -⟩ := id HM2
      rw [ev1] at c3 HM1
      rw [ev2] at d3 HM2
      have hsn := HSN.out k
      have hfl := HF.out _ (nthI_mem (L := L) (k := k) (by omega))
      clear ev1 ev2 q1 q2
      generalize (nthI L k).1 = x at *
      generalize (nthI M k).1 = y at *
      have HB1 : Hid (∀ W, Calls Try.prog 43 #[.agg #[.int .u8 x.kind, .string (str x.name), .string (str x.tag), .slice a1 x.nums.length k1, .string (str x.frm.name), .int .i64 x.frm.port, .int .i64 x.frm.place, .string (str x.tgt.name), .int .i64 x.tgt.port, .int .i64 x.tgt.place, .int .i64 x.place]] W fun e w' => e = .returned (.agg #[.int .u8 x.kind, .string (str x.name), .string (str x.tag), .slice a1 x.nums.length k1, .string (str x.frm.name), .int .i64 x.frm.port, .int .i64 0, .string (str x.tgt.name), .int .i64 x.tgt.port, .int .i64 0, .int .i64 0]) ∧ Below W.heap.size W w') := fun W => rbare_any x a1 x.nums.length k1 W
      have HB2 : Hid (∀ W, Calls Try.prog 43 #[.agg #[.int .u8 y.kind, .string (str y.name), .string (str y.tag), .slice a2 y.nums.length k2, .string (str y.frm.name), .int .i64 y.frm.port, .int .i64 y.frm.place, .string (str y.tgt.name), .int .i64 y.tgt.port, .int .i64 y.tgt.place, .int .i64 y.place]] W fun e w' => e = .returned (.agg #[.int .u8 y.kind, .string (str y.name), .string (str y.tag), .slice a2 y.nums.length k2, .string (str y.frm.name), .int .i64 y.frm.port, .int .i64 0, .string (str y.tgt.name), .int .i64 y.tgt.port, .int .i64 0, .int .i64 0]) ∧ Below W.heap.size W w') := fun W => rbare_any y a2 y.nums.length k2 W
      have HSI : Hid (∀ W, Below wr.heap.size wr W → Calls Try.prog 42 #[.agg #[.int .u8 x.kind, .string (str x.name), .string (str x.tag), .slice a1 x.nums.length k1, .string (str x.frm.name), .int .i64 x.frm.port, .int .i64 0, .string (str x.tgt.name), .int .i64 x.tgt.port, .int .i64 0, .int .i64 0], .agg #[.int .u8 y.kind, .string (str y.name), .string (str y.tag), .slice a2 y.nums.length k2, .string (str y.frm.name), .int .i64 y.frm.port, .int .i64 0, .string (str y.tgt.name), .int .i64 y.tgt.port, .int .i64 0, .int .i64 0]] W fun e w' => e = .returned (.bool true) ∧ Below W.heap.size W w') := fun W hb => by
        obtain ⟨h1, h2, h3, h4, h5, h6, h7, h8⟩ := bare_same hsn
        have hm2 := HM2
        rw [← h4] at hm2
        have := rsame_any (bareI x) a1 a2 k1 k2 W hfl (HM1.below hb) (hm2.below hb)
        unfold bareI bareP at this
        rw [← h1, ← h2, ← h3, ← h4, ← h5, ← h6, ← h7, ← h8]
        exact this
      clear hsn HM1 HM2 hfl
      generalize x.nums.length = xl at *
      generalize y.nums.length = yl at *
      go_wp2
      refine wp_region_said 13 (fun i u v => match i with
          | 0 => v = .pointer (some ⟨w.heap.size, 1, none⟩)
          | 1 => v = .slice (some ⟨g1, o1, none⟩) n c1
          | 2 => v = .int .i64 (k : Int)
          | 3 => v = .pointer (some ⟨g1, o1 + k * 11, none⟩)
          | 4 => v = .agg #[.int .u8 x.kind, .string (str x.name), .string (str x.tag), (.slice a1 xl k1), .string (str x.frm.name), .int .i64 x.frm.port, .int .i64 x.frm.place, .string (str x.tgt.name), .int .i64 x.tgt.port, .int .i64 x.tgt.place, .int .i64 x.place]
          | 5 => v = .agg #[.int .u8 x.kind, .string (str x.name), .string (str x.tag), (.slice a1 xl k1), .string (str x.frm.name), .int .i64 x.frm.port, .int .i64 0, .string (str x.tgt.name), .int .i64 x.tgt.port, .int .i64 0, .int .i64 0]
          | 6 => v = .pointer (some ⟨w.heap.size + 1, 1, none⟩)
          | 7 => v = .slice (some ⟨g2, o2, none⟩) n c2
          | 8 => v = .int .i64 (k : Int)
          | 9 => v = .pointer (some ⟨g2, o2 + k * 11, none⟩)
          | 10 => v = .agg #[.int .u8 y.kind, .string (str y.name), .string (str y.tag), (.slice a2 yl k2), .string (str y.frm.name), .int .i64 y.frm.port, .int .i64 y.frm.place, .string (str y.tgt.name), .int .i64 y.tgt.port, .int .i64 y.tgt.place, .int .i64 y.place]
          | 11 => v = .agg #[.int .u8 y.kind, .string (str y.name), .string (str y.tag), (.slice a2 yl k2), .string (str y.frm.name), .int .i64 y.frm.port, .int .i64 0, .string (str y.tgt.name), .int .i64 y.tgt.port, .int .i64 0, .int .i64 0]
          | 12 => v = .bool true
          | _ => True) (by kernel_rfl) (by kernel_rfl) (by kernel_rfl) (by kernel_rfl) ?_ ?_ ?_
      · intro i w v w' h hb
        match i, h with
        | 0, h => exact h
        | 1, h => exact h
        | 2, h => exact h
        | 3, h => exact h
        | 4, h => exact h
        | 5, h => exact h
        | 6, h => exact h
        | 7, h => exact h
        | 8, h => exact h
        | 9, h => exact h
        | 10, h => exact h
        | 11, h => exact h
        | 12, h => exact h
        | _ + 13, _ => trivial
      · intro i o ρ w' hi ho hb hc hf hfr hdep
        have LK : ∀ {a : Addr} {x : Value}, wr.cell? a = some x → w'.cell? a = some x := fun h => cell_keep hb h
        have z1 := LK y1
        have z2 := LK y2
        have q10 := LK c0
        have q11 := LK c1'
        have q12 := LK c2'
        have q13 := LK c3
        have q14 := LK c4
        have q15 := LK c5
        have q16 := LK c6
        have q17 := LK c7
        have q18 := LK c8
        have q19 := LK c9
        have q110 := LK c10
        have q20 := LK d0
        have q21 := LK d1
        have q22 := LK d2
        have q23 := LK d3
        have q24 := LK d4
        have q25 := LK d5
        have q26 := LK d6
        have q27 := LK d7
        have q28 := LK d8
        have q29 := LK d9
        have q210 := LK d10
        match i, hi with
        | 0, _ =>
          simp only [gTA, gCZ, gSI] at ho
          subst ho
          have ts : ρ (.tmp 2) = .pointer (some ⟨w.heap.size, 0, none⟩) := hfr 2 (by kernel_rfl)
          simp [go_sem, ts]
          exact ⟨Below.refl _ _, rfl⟩
        | 1, _ =>
          simp only [gTA, gCZ, gCS, gSI] at ho
          subst ho
          have ts : ρ (.tmp 27) = .pointer (some ⟨w.heap.size, 1, none⟩) := hdep 0 27 (by kernel_rfl) (by kernel_rfl)
          simp [go_sem, ts, z1]
          exact ⟨Below.refl _ _, rfl⟩
        | 2, _ =>
          simp only [gTA, gCZ, gCS, gSI] at ho
          subst ho
          have ts : ρ (.tmp 5) = .int .i64 (k : Int) := hfr 5 (by kernel_rfl)
          simp [go_sem, ts]
          exact ⟨Below.refl _ _, rfl⟩
        | 3, _ =>
          simp only [gTA, gCZ, gCS, gSI] at ho
          subst ho
          have t1 : ρ (.tmp 28) = .slice (some ⟨g1, o1, none⟩) n c1 := hdep 1 28 (by kernel_rfl) (by kernel_rfl)
          have t2 : ρ (.tmp 29) = .int .i64 (k : Int) := hdep 2 29 (by kernel_rfl) (by kernel_rfl)
          simp [go_sem, t1, t2, hki]
          exact ⟨Below.refl _ _, rfl⟩
        | 4, _ =>
          simp only [gTA, gCZ, gCS, gSI] at ho
          subst ho
          have t1 : ρ (.tmp 30) = .pointer (some ⟨g1, o1 + k * 11, none⟩) := hdep 3 30 (by kernel_rfl) (by kernel_rfl)
          simp [go_sem, t1, q10, q11, q12, q13, q14, q15, q16, q17, q18, q19, q110]
          exact ⟨Below.refl _ _, rfl⟩
        | 5, _ =>
          simp only [gTA, gCZ, gCS, gSI] at ho
          subst ho
          have t1 : ρ (.tmp 31) = .agg #[.int .u8 x.kind, .string (str x.name), .string (str x.tag), (.slice a1 xl k1), .string (str x.frm.name), .int .i64 x.frm.port, .int .i64 x.frm.place, .string (str x.tgt.name), .int .i64 x.tgt.port, .int .i64 x.tgt.place, .int .i64 x.place] := hdep 4 31 (by kernel_rfl) (by kernel_rfl)
          simp [go_sem, t1, hf]
          exact ⟨rfl, (HB1.out w').mono fun e u h => ⟨_, h.1, h.2, rfl⟩⟩
        | 6, _ =>
          simp only [gTA, gCZ, gCS, gSI] at ho
          subst ho
          have ts : ρ (.tmp 3) = .pointer (some ⟨w.heap.size + 1, 0, none⟩) := hfr 3 (by kernel_rfl)
          simp [go_sem, ts]
          exact ⟨Below.refl _ _, rfl⟩
        | 7, _ =>
          simp only [gTA, gCZ, gCS, gSI] at ho
          subst ho
          have ts : ρ (.tmp 33) = .pointer (some ⟨w.heap.size + 1, 1, none⟩) := hdep 6 33 (by kernel_rfl) (by kernel_rfl)
          simp [go_sem, ts, z2]
          exact ⟨Below.refl _ _, rfl⟩
        | 8, _ =>
          simp only [gTA, gCZ, gCS, gSI] at ho
          subst ho
          have ts : ρ (.tmp 5) = .int .i64 (k : Int) := hfr 5 (by kernel_rfl)
          simp [go_sem, ts]
          exact ⟨Below.refl _ _, rfl⟩
        | 9, _ =>
          simp only [gTA, gCZ, gCS, gSI] at ho
          subst ho
          have t1 : ρ (.tmp 34) = .slice (some ⟨g2, o2, none⟩) n c2 := hdep 7 34 (by kernel_rfl) (by kernel_rfl)
          have t2 : ρ (.tmp 35) = .int .i64 (k : Int) := hdep 8 35 (by kernel_rfl) (by kernel_rfl)
          simp [go_sem, t1, t2, hki]
          exact ⟨Below.refl _ _, rfl⟩
        | 10, _ =>
          simp only [gTA, gCZ, gCS, gSI] at ho
          subst ho
          have t1 : ρ (.tmp 36) = .pointer (some ⟨g2, o2 + k * 11, none⟩) := hdep 9 36 (by kernel_rfl) (by kernel_rfl)
          simp [go_sem, t1, q20, q21, q22, q23, q24, q25, q26, q27, q28, q29, q210]
          exact ⟨Below.refl _ _, rfl⟩
        | 11, _ =>
          simp only [gTA, gCZ, gCS, gSI] at ho
          subst ho
          have t1 : ρ (.tmp 37) = .agg #[.int .u8 y.kind, .string (str y.name), .string (str y.tag), (.slice a2 yl k2), .string (str y.frm.name), .int .i64 y.frm.port, .int .i64 y.frm.place, .string (str y.tgt.name), .int .i64 y.tgt.port, .int .i64 y.tgt.place, .int .i64 y.place] := hdep 10 37 (by kernel_rfl) (by kernel_rfl)
          simp [go_sem, t1, hf]
          exact ⟨rfl, (HB2.out w').mono fun e u h => ⟨_, h.1, h.2, rfl⟩⟩
        | 12, _ =>
          simp only [gTA, gCZ, gCS, gSI] at ho
          subst ho
          have t1 : ρ (.tmp 32) = .agg #[.int .u8 x.kind, .string (str x.name), .string (str x.tag), (.slice a1 xl k1), .string (str x.frm.name), .int .i64 x.frm.port, .int .i64 0, .string (str x.tgt.name), .int .i64 x.tgt.port, .int .i64 0, .int .i64 0] := hdep 5 32 (by kernel_rfl) (by kernel_rfl)
          have t2 : ρ (.tmp 38) = .agg #[.int .u8 y.kind, .string (str y.name), .string (str y.tag), (.slice a2 yl k2), .string (str y.frm.name), .int .i64 y.frm.port, .int .i64 0, .string (str y.tgt.name), .int .i64 y.tgt.port, .int .i64 0, .int .i64 0] := hdep 11 38 (by kernel_rfl) (by kernel_rfl)
          simp [go_sem, t1, t2, hf]
          exact ⟨rfl, (HSI.out w' hb).mono fun e u h => ⟨_, h.1, h.2, rfl⟩⟩
      · intro V w9 q9 hS
        have e0 : V 0 = .pointer (some ⟨w.heap.size, 1, none⟩) := hS 0 (by decide)
        have e1 : V 1 = .slice (some ⟨g1, o1, none⟩) n c1 := hS 1 (by decide)
        have e2 : V 2 = .int .i64 (k : Int) := hS 2 (by decide)
        have e3 : V 3 = .pointer (some ⟨g1, o1 + k * 11, none⟩) := hS 3 (by decide)
        have e4 : V 4 = .agg #[.int .u8 x.kind, .string (str x.name), .string (str x.tag), (.slice a1 xl k1), .string (str x.frm.name), .int .i64 x.frm.port, .int .i64 x.frm.place, .string (str x.tgt.name), .int .i64 x.tgt.port, .int .i64 x.tgt.place, .int .i64 x.place] := hS 4 (by decide)
        have e5 : V 5 = .agg #[.int .u8 x.kind, .string (str x.name), .string (str x.tag), (.slice a1 xl k1), .string (str x.frm.name), .int .i64 x.frm.port, .int .i64 0, .string (str x.tgt.name), .int .i64 x.tgt.port, .int .i64 0, .int .i64 0] := hS 5 (by decide)
        have e6 : V 6 = .pointer (some ⟨w.heap.size + 1, 1, none⟩) := hS 6 (by decide)
        have e7 : V 7 = .slice (some ⟨g2, o2, none⟩) n c2 := hS 7 (by decide)
        have e8 : V 8 = .int .i64 (k : Int) := hS 8 (by decide)
        have e9 : V 9 = .pointer (some ⟨g2, o2 + k * 11, none⟩) := hS 9 (by decide)
        have e10 : V 10 = .agg #[.int .u8 y.kind, .string (str y.name), .string (str y.tag), (.slice a2 yl k2), .string (str y.frm.name), .int .i64 y.frm.port, .int .i64 y.frm.place, .string (str y.tgt.name), .int .i64 y.tgt.port, .int .i64 y.tgt.place, .int .i64 y.place] := hS 10 (by decide)
        have e11 : V 11 = .agg #[.int .u8 y.kind, .string (str y.name), .string (str y.tag), (.slice a2 yl k2), .string (str y.frm.name), .int .i64 y.frm.port, .int .i64 0, .string (str y.tgt.name), .int .i64 y.tgt.port, .int .i64 0, .int .i64 0] := hS 11 (by decide)
        have e12 : V 12 = .bool true := hS 12 (by decide)
        simp only [List.drop_succ_cons, List.drop_zero, List.take_succ_cons, List.take_zero, puts, e0, e1, e2, e3, e4, e5, e6, e7, e8, e9, e10, e11, e12]
        clear hS e0 e1 e2 e3 e4 e5 e6 e7 e8 e9 e10 e11 e12 V
        go_wp2
        go_roundg (n - (k + 1))
        case measure => omega
        case rel => exact ⟨k + 1, by omega, rfl, by go_num, HBE.out.trans (q9.mono HBE.out.size), HK1.out.below q9, HK2.out.below q9, HI1.out.below q9, HI2.out.below q9⟩
    · have ek : k = n := by omega
      subst ek
      have hki : ¬ ((k : Int) < (k : Int)) := by omega
      go_wp2
      go_ret
      exact ⟨rfl, HBE.out⟩
end Go.Proofs.Ytokhoigpaanjeaa
