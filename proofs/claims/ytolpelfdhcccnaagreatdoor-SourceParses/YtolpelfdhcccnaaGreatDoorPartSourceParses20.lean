/- Texts of one chain, laid one behind the other. -/
import Derived.Test.YtolpelfdhcccnaaGreatDoorPartSourceParses19
namespace Go.Proofs.YtolpelfdhcccnaaGreatDoor
open Go.ChangeShapes Go.WideShapes Go.ChangeAt Go.RowKit
theorem edge_any (P : Nat) (v : Value) (ts : List Tok) (i : Nat) (W0 W : World) (I : Nat) (pl : Int) (hpl : (nthT ts i).place = pl) (hG : Goes P v ts i W0 W) (hP0 : ∀ {n : Nat}, W0.heap.size ≤ n → v.ownBlock ≠ some n ∧ P ≠ n) (hI : W0.heap.size ≤ I) (hB : Blk 103 I W (itC_k 0 [] [] (.slice none 0 0) noPlc_k noPlc_k pl)) (hE : Ended ts) (hi : i < ts.length) (hl : ts.length ≤ 2000000) (ht : (nthT ts i).text = [101, 100, 103, 101]) (h0 : Par P v ts i W0) :
    Calls Tryz.prog 139 #[.pointer (some ⟨P, 0, none⟩), .pointer (some ⟨I, 0, none⟩)] W (BodyEnd P v ts W0 I (edgeR ts i)) := by
  rcases h1 : textR ts [101, 100, 103, 101] i with ⟨_ | ⟨⟩, j1⟩
  · unfold textR at h1; rw [if_pos ht] at h1; cases h1
  rcases h2 : placeR ts j1 with ⟨_ | p2, j2⟩
  · exact edge_no2 P v ts i W0 W I pl hpl hG hP0 hI hB hE hi hl j1 j2 h1 h2
  rcases h3 : textR ts [45, 62] j2 with ⟨_ | ⟨⟩, j3⟩
  · exact edge_no3 P v ts i W0 W I pl hpl hG hP0 hI hB hE hi hl j1 j2 p2 j3 h1 h2 h3
  rcases h4 : placeR ts j3 with ⟨_ | p4, j4⟩
  · exact edge_no4 P v ts i W0 W I pl hpl hG hP0 hI hB hE hi hl j1 j2 p2 j3 j4 h1 h2 h3 h4
  by_cases hw : (nthT ts j4).text = [119, 105, 116, 104]
  · rcases hx : numR ts (j4 + 1) with ⟨_ | x, j6⟩
    · exact edge_noNum P v ts i W0 W I pl hpl hG hP0 hI hB hE hi hl j1 j2 p2 j3 j4 p4 j6 h1 h2 h3 h4 hw hx
    · exact edge_num P v ts i W0 W I pl hpl hG hP0 hI hB hE hi hl j1 j2 p2 j3 j4 p4 x j6 h1 h2 h3 h4 hw hx h0
  · exact edge_plain P v ts i W0 W I pl hpl hG hP0 hI hB hE hi hl j1 j2 p2 j3 j4 p4 h1 h2 h3 h4 hw
/-- How the reading of an item ends. -/
def ItemEnd (P : Nat) (v : Value) (ts : List Tok) (W : World) (r : Rd Itm_k) (e : Ending) (w' : World) : Prop :=
  match r with
  | (some x, j) => (∃ a c, e = .returned (.agg (itC_k x.kind x.name x.tag (.slice a x.nums.length c) x.frm x.to x.place)) ∧ Ints_k W.heap.size w' (.slice a x.nums.length c) x.nums) ∧ Goes P v ts j W w' ∧ j < ts.length
  | (none, j) => e = .panicked tokPanic ∧ Goes P v ts j W w' ∧ j < ts.length
theorem grown_of_below {W W1 w' : World} {P : Option Nat} (hb : Below W.heap.size W W1) (hg : W1.grownBy w' P) : W.grownBy w' P := Lib.grownBy_trans (below_grows hb P) hg
set_option maxRecDepth 100000 in
set_option maxHeartbeats 4000000 in
theorem item_actor_body (P : Nat) (v : Value) (ts : List Tok) (i : Nat) (W : World) (h : Par P v ts i W) (hE : Ended ts) (hi : i < ts.length) (hl : ts.length ≤ 2000000)  (t0 : (nthT ts i).text = [97, 99, 116, 111, 114]) (j1 : Nat) (hr : actorR ts i = (none, j1)) :
    Calls Tryz.prog 86 #[.pointer (some ⟨P, 0, none⟩)] W (ItemEnd P v ts W (itemR ts i)) := by
  have HM : itemR ts i = (none, j1) := by unfold itemR bodyR; rw [if_pos t0, hr, then_none]
  rw [HM]
  show Calls _ _ _ _ (fun e w' => e = .panicked tokPanic ∧ Goes P v ts j1 W w' ∧ j1 < ts.length)
  clear HM
  have hb0 := (Below.refl W.heap.size W).alloc (Nat.le_refl _) (.cells #[.int .u8 0, .string ⟨#[]⟩, .string ⟨#[]⟩, .slice none 0 0, .string ⟨#[]⟩, .int .i64 0, .int .i64 0, .string ⟨#[]⟩, .int .i64 0, .int .i64 0, .int .i64 0] 103)
  have HBK : Hid (v.ownBlock ≠ some W.heap.size ∧ P ≠ W.heap.size) := h.blk (Nat.le_refl _)
  have HB0 := hidden hb0
  have hR0 := blk_new 103 W #[.int .u8 0, .string ⟨#[]⟩, .string ⟨#[]⟩, .slice none 0 0, .string ⟨#[]⟩, .int .i64 0, .int .i64 0, .string ⟨#[]⟩, .int .i64 0, .int .i64 0, .int .i64 0]
  have hP1 := h.below hb0
  have hWs : (W.alloc (.cells #[.int .u8 0, .string ⟨#[]⟩, .string ⟨#[]⟩, .slice none 0 0, .string ⟨#[]⟩, .int .i64 0, .int .i64 0, .string ⟨#[]⟩, .int .i64 0, .int .i64 0, .int .i64 0] 103)).heap.size = W.heap.size + 1 := by simp
  have ff := tok_f3
  obtain ⟨W0, hW0⟩ : ∃ W0, W0 = W.alloc (.cells #[.int .u8 0, .string ⟨#[]⟩, .string ⟨#[]⟩, .slice none 0 0, .string ⟨#[]⟩, .int .i64 0, .int .i64 0, .string ⟨#[]⟩, .int .i64 0, .int .i64 0, .int .i64 0] 103) := ⟨_, rfl⟩
  rw [← hW0] at hb0 hR0 hP1 hWs HB0
  have HR0 := hidden hR0
  have HA := hidden (ahead_at P v ts i W0 hP1 hi hl)
  have HPW := hidden hP1
  have HBW : Hid (∀ {n : Nat}, W0.heap.size ≤ n → v.ownBlock ≠ some n ∧ P ≠ n) := fun hn => hP1.blk hn
  have HC : Hid (∀ I w1, W0.heap.size ≤ I → Goes P v ts i W0 w1 → Blk 103 I w1 (itC_k 0 [] [] (.slice none 0 0) noPlc_k noPlc_k (nthT ts i).place) → Calls Tryz.prog 138 #[.pointer (some ⟨P, 0, none⟩), .pointer (some ⟨I, 0, none⟩)] w1 fun e w' => e = .panicked tokPanic ∧ Goes P v ts j1 W0 w' ∧ j1 < ts.length) := fun I w1 q1 q2 q3 => by
    have := actor_any P v ts i W0 w1 I _ rfl q2 (fun hn => hP1.blk hn) q1 q3 hE hi hl t0
    rw [hr] at this
    exact this
  have HS0 : Hid (∀ w1, Par P v ts i w1 → Calls Tryz.prog 85 #[.pointer (some ⟨P, 0, none⟩), .string ⟨#[97, 99, 116, 111, 114]⟩] w1 fun e w' => e = .returned (.bool true) ∧ Below w1.heap.size w1 w') := fun w1 q => by
    have := says_at P v ts i w1 q hi hl [97, 99, 116, 111, 114]
    rw [decide_eq_true t0] at this
    exact this
  have HWL : Hid (W.heap.size < W0.heap.size) := by show _ < _; rw [hWs]; omega
  clear hWs
  clear h hb0 hR0 hP1 hr t0
  subst hW0
  unfold tokV at HA
  generalize nthT ts i = tk at *
  obtain ⟨so, tx, nm, pl⟩ := tk
  simp only at HA HC
  go_enter Tryz.func86, Tryz.ntmps86
  go_wp2_with (first
    | (go_at_call 138; (with_reducible refine (HC.out _ _ NE.out G2.out B2.out).mono ?_); rintro e wb ⟨rfl, hg, hj⟩; have GB := hidden hg; have HJ := hidden hj; clear hg hj)
    | (go_at_call 85; (with_reducible refine (HS0.out _ G1.out.par).mono ?_); rintro e w2 ⟨rfl, hb⟩; have G2 := hidden (G1.out.later hb); have B2 := hidden (B1.out.below hb); clear hb)
    | (go_at_call 46; (with_reducible refine HA.out.mono ?_); rintro e w1 ⟨rfl, hb⟩; have NE := hidden hb.size; have hb2 := hb.trans (((Below.refl w1.heap.size w1).alloc (Nat.le_refl _) (.cells #[.int .u8 0, .string ⟨#[]⟩, .string ⟨#[]⟩, .slice none 0 0, .string ⟨#[]⟩, .int .i64 0, .int .i64 0, .string ⟨#[]⟩, .int .i64 0, .int .i64 0, .int .i64 pl] 103)).mono hb.size); have G1 := hidden (Goes.stay HPW.out hb2); have B1 : Hid (Blk 103 w1.heap.size (w1.alloc (.cells #[.int .u8 0, .string ⟨#[]⟩, .string ⟨#[]⟩, .slice none 0 0, .string ⟨#[]⟩, .int .i64 0, .int .i64 0, .string ⟨#[]⟩, .int .i64 0, .int .i64 0, .int .i64 pl] 103)) (itC_k 0 [] [] (.slice none 0 0) noPlc_k noPlc_k pl)) := blk_new _ _ _; clear hb hb2))
  exact ⟨rfl, rfl, ⟨GB.out.par, grown_of_below HB0.out GB.out.grown⟩, HJ.out⟩
set_option maxRecDepth 100000 in
set_option maxHeartbeats 4000000 in
theorem item_actor_semi (P : Nat) (v : Value) (ts : List Tok) (i : Nat) (W : World) (h : Par P v ts i W) (hE : Ended ts) (hi : i < ts.length) (hl : ts.length ≤ 2000000)  (t0 : (nthT ts i).text = [97, 99, 116, 111, 114]) (x : Itm_k) (j1 j2 : Nat) (hr : actorR ts i = (some x, j1)) (hs : textR ts [59] j1 = (none, j2)) :
    Calls Tryz.prog 86 #[.pointer (some ⟨P, 0, none⟩)] W (ItemEnd P v ts W (itemR ts i)) := by
  have HM : itemR ts i = (none, j2) := by unfold itemR bodyR; rw [if_pos t0, hr, then_some, hs, then_none]
  rw [HM]
  show Calls _ _ _ _ (fun e w' => e = .panicked tokPanic ∧ Goes P v ts j2 W w' ∧ j2 < ts.length)
  clear HM
  have hb0 := (Below.refl W.heap.size W).alloc (Nat.le_refl _) (.cells #[.int .u8 0, .string ⟨#[]⟩, .string ⟨#[]⟩, .slice none 0 0, .string ⟨#[]⟩, .int .i64 0, .int .i64 0, .string ⟨#[]⟩, .int .i64 0, .int .i64 0, .int .i64 0] 103)
  have HBK : Hid (v.ownBlock ≠ some W.heap.size ∧ P ≠ W.heap.size) := h.blk (Nat.le_refl _)
  have HB0 := hidden hb0
  have hR0 := blk_new 103 W #[.int .u8 0, .string ⟨#[]⟩, .string ⟨#[]⟩, .slice none 0 0, .string ⟨#[]⟩, .int .i64 0, .int .i64 0, .string ⟨#[]⟩, .int .i64 0, .int .i64 0, .int .i64 0]
  have hP1 := h.below hb0
  have hWs : (W.alloc (.cells #[.int .u8 0, .string ⟨#[]⟩, .string ⟨#[]⟩, .slice none 0 0, .string ⟨#[]⟩, .int .i64 0, .int .i64 0, .string ⟨#[]⟩, .int .i64 0, .int .i64 0, .int .i64 0] 103)).heap.size = W.heap.size + 1 := by simp
  have ff := tok_f3
  obtain ⟨W0, hW0⟩ : ∃ W0, W0 = W.alloc (.cells #[.int .u8 0, .string ⟨#[]⟩, .string ⟨#[]⟩, .slice none 0 0, .string ⟨#[]⟩, .int .i64 0, .int .i64 0, .string ⟨#[]⟩, .int .i64 0, .int .i64 0, .int .i64 0] 103) := ⟨_, rfl⟩
  rw [← hW0] at hb0 hR0 hP1 hWs HB0
  have HR0 := hidden hR0
  have HA := hidden (ahead_at P v ts i W0 hP1 hi hl)
  have HPW := hidden hP1
  have HBW : Hid (∀ {n : Nat}, W0.heap.size ≤ n → v.ownBlock ≠ some n ∧ P ≠ n) := fun hn => hP1.blk hn
  have HC : Hid (∀ I w1, W0.heap.size ≤ I → Goes P v ts i W0 w1 → Blk 103 I w1 (itC_k 0 [] [] (.slice none 0 0) noPlc_k noPlc_k (nthT ts i).place) → Calls Tryz.prog 138 #[.pointer (some ⟨P, 0, none⟩), .pointer (some ⟨I, 0, none⟩)] w1 fun e w' => e = .returned (.tuple #[]) ∧ (∃ ns, Blk 103 I w' (itC_k x.kind x.name x.tag ns x.frm x.to x.place) ∧ Ints_k W0.heap.size w' ns x.nums) ∧ Goes P v ts j1 W0 w' ∧ j1 < ts.length) := fun I w1 q1 q2 q3 => by
    have := actor_any P v ts i W0 w1 I _ rfl q2 (fun hn => hP1.blk hn) q1 q3 hE hi hl t0
    rw [hr] at this
    exact this
  have HS0 : Hid (∀ w1, Par P v ts i w1 → Calls Tryz.prog 85 #[.pointer (some ⟨P, 0, none⟩), .string ⟨#[97, 99, 116, 111, 114]⟩] w1 fun e w' => e = .returned (.bool true) ∧ Below w1.heap.size w1 w') := fun w1 q => by
    have := says_at P v ts i w1 q hi hl [97, 99, 116, 111, 114]
    rw [decide_eq_true t0] at this
    exact this
  have HX : Hid (j1 < ts.length → j2 < ts.length ∧ ∀ w1, Par P v ts j1 w1 → Calls Tryz.prog 83 #[.pointer (some ⟨P, 0, none⟩), .string ⟨#[59]⟩] w1 fun e w' => e = .panicked tokPanic ∧ Goes P v ts j2 w1 w') := fun hj1 => ⟨(expect_none hs hj1 hl P v).1, (expect_none hs hj1 hl P v).2⟩
  have HWL : Hid (W.heap.size < W0.heap.size) := by show _ < _; rw [hWs]; omega
  clear hWs
  clear h hb0 hR0 hP1 hr hs t0
  subst hW0
  unfold tokV at HA
  generalize nthT ts i = tk at *
  obtain ⟨so, tx, nm, pl⟩ := tk
  simp only at HA HC
  go_enter Tryz.func86, Tryz.ntmps86
  go_wp2_with (first
    | (go_at_call 83; (with_reducible refine (HX2.out.2 _ GB.out.par).mono ?_); rintro e wc ⟨rfl, hg⟩; have GC := hidden (GB.out.trans hg); clear hg)
    | (go_at_call 138; (with_reducible refine (HC.out _ _ NE.out G2.out B2.out).mono ?_); rintro e wb ⟨rfl, ⟨ns, hbk, hin⟩, hg, hj⟩; obtain ⟨a, c, rfl⟩ := hin.shape; have GB := hidden hg; have BB := hidden hbk; have NB := hidden hin; have HX2 := hidden (HX.out hj); clear hg hj hbk hin)
    | (go_at_call 85; (with_reducible refine (HS0.out _ G1.out.par).mono ?_); rintro e w2 ⟨rfl, hb⟩; have G2 := hidden (G1.out.later hb); have B2 := hidden (B1.out.below hb); clear hb)
    | (go_at_call 46; (with_reducible refine HA.out.mono ?_); rintro e w1 ⟨rfl, hb⟩; have NE := hidden hb.size; have hb2 := hb.trans (((Below.refl w1.heap.size w1).alloc (Nat.le_refl _) (.cells #[.int .u8 0, .string ⟨#[]⟩, .string ⟨#[]⟩, .slice none 0 0, .string ⟨#[]⟩, .int .i64 0, .int .i64 0, .string ⟨#[]⟩, .int .i64 0, .int .i64 0, .int .i64 pl] 103)).mono hb.size); have G1 := hidden (Goes.stay HPW.out hb2); have B1 : Hid (Blk 103 w1.heap.size (w1.alloc (.cells #[.int .u8 0, .string ⟨#[]⟩, .string ⟨#[]⟩, .slice none 0 0, .string ⟨#[]⟩, .int .i64 0, .int .i64 0, .string ⟨#[]⟩, .int .i64 0, .int .i64 0, .int .i64 pl] 103)) (itC_k 0 [] [] (.slice none 0 0) noPlc_k noPlc_k pl)) := blk_new _ _ _; clear hb hb2))
  exact ⟨rfl, rfl, ⟨GC.out.par, grown_of_below HB0.out GC.out.grown⟩, HX2.out.1⟩
set_option maxRecDepth 100000 in
set_option maxHeartbeats 4000000 in
theorem item_actor_all (P : Nat) (v : Value) (ts : List Tok) (i : Nat) (W : World) (h : Par P v ts i W) (hE : Ended ts) (hi : i < ts.length) (hl : ts.length ≤ 2000000)  (t0 : (nthT ts i).text = [97, 99, 116, 111, 114]) (x : Itm_k) (j1 j2 : Nat) (hr : actorR ts i = (some x, j1)) (hs : textR ts [59] j1 = (some (), j2)) :
    Calls Tryz.prog 86 #[.pointer (some ⟨P, 0, none⟩)] W (ItemEnd P v ts W (itemR ts i)) := by
  have HM : itemR ts i = (some x, j2) := by unfold itemR bodyR; rw [if_pos t0, hr, then_some, hs, then_some]
  rw [HM]
  show Calls _ _ _ _ (fun e w' => (∃ a c, e = .returned (.agg (itC_k x.kind x.name x.tag (.slice a x.nums.length c) x.frm x.to x.place)) ∧ Ints_k W.heap.size w' (.slice a x.nums.length c) x.nums) ∧ Goes P v ts j2 W w' ∧ j2 < ts.length)
  clear HM
  have hb0 := (Below.refl W.heap.size W).alloc (Nat.le_refl _) (.cells #[.int .u8 0, .string ⟨#[]⟩, .string ⟨#[]⟩, .slice none 0 0, .string ⟨#[]⟩, .int .i64 0, .int .i64 0, .string ⟨#[]⟩, .int .i64 0, .int .i64 0, .int .i64 0] 103)
  have HBK : Hid (v.ownBlock ≠ some W.heap.size ∧ P ≠ W.heap.size) := h.blk (Nat.le_refl _)
  have HB0 := hidden hb0
  have hR0 := blk_new 103 W #[.int .u8 0, .string ⟨#[]⟩, .string ⟨#[]⟩, .slice none 0 0, .string ⟨#[]⟩, .int .i64 0, .int .i64 0, .string ⟨#[]⟩, .int .i64 0, .int .i64 0, .int .i64 0]
  have hP1 := h.below hb0
  have hWs : (W.alloc (.cells #[.int .u8 0, .string ⟨#[]⟩, .string ⟨#[]⟩, .slice none 0 0, .string ⟨#[]⟩, .int .i64 0, .int .i64 0, .string ⟨#[]⟩, .int .i64 0, .int .i64 0, .int .i64 0] 103)).heap.size = W.heap.size + 1 := by simp
  have ff := tok_f3
  obtain ⟨W0, hW0⟩ : ∃ W0, W0 = W.alloc (.cells #[.int .u8 0, .string ⟨#[]⟩, .string ⟨#[]⟩, .slice none 0 0, .string ⟨#[]⟩, .int .i64 0, .int .i64 0, .string ⟨#[]⟩, .int .i64 0, .int .i64 0, .int .i64 0] 103) := ⟨_, rfl⟩
  rw [← hW0] at hb0 hR0 hP1 hWs HB0
  have HR0 := hidden hR0
  have HA := hidden (ahead_at P v ts i W0 hP1 hi hl)
  have HPW := hidden hP1
  have HBW : Hid (∀ {n : Nat}, W0.heap.size ≤ n → v.ownBlock ≠ some n ∧ P ≠ n) := fun hn => hP1.blk hn
  have HC : Hid (∀ I w1, W0.heap.size ≤ I → Goes P v ts i W0 w1 → Blk 103 I w1 (itC_k 0 [] [] (.slice none 0 0) noPlc_k noPlc_k (nthT ts i).place) → Calls Tryz.prog 138 #[.pointer (some ⟨P, 0, none⟩), .pointer (some ⟨I, 0, none⟩)] w1 fun e w' => e = .returned (.tuple #[]) ∧ (∃ ns, Blk 103 I w' (itC_k x.kind x.name x.tag ns x.frm x.to x.place) ∧ Ints_k W0.heap.size w' ns x.nums) ∧ Goes P v ts j1 W0 w' ∧ j1 < ts.length) := fun I w1 q1 q2 q3 => by
    have := actor_any P v ts i W0 w1 I _ rfl q2 (fun hn => hP1.blk hn) q1 q3 hE hi hl t0
    rw [hr] at this
    exact this
  have HS0 : Hid (∀ w1, Par P v ts i w1 → Calls Tryz.prog 85 #[.pointer (some ⟨P, 0, none⟩), .string ⟨#[97, 99, 116, 111, 114]⟩] w1 fun e w' => e = .returned (.bool true) ∧ Below w1.heap.size w1 w') := fun w1 q => by
    have := says_at P v ts i w1 q hi hl [97, 99, 116, 111, 114]
    rw [decide_eq_true t0] at this
    exact this
  have HX : Hid (j1 < ts.length → j2 < ts.length ∧ ∀ w1, Par P v ts j1 w1 → Calls Tryz.prog 83 #[.pointer (some ⟨P, 0, none⟩), .string ⟨#[59]⟩] w1 fun e w' => e = .returned (.tuple #[]) ∧ Goes P v ts j2 w1 w') := fun hj1 => ⟨(expect_some hs hE hj1 hl (by decide) P v).1, (expect_some hs hE hj1 hl (by decide) P v).2⟩
  have HWL : Hid (W.heap.size < W0.heap.size) := by show _ < _; rw [hWs]; omega
  clear hWs
  clear h hb0 hR0 hP1 hr hs t0
  subst hW0
  unfold tokV at HA
  generalize nthT ts i = tk at *
  obtain ⟨so, tx, nm, pl⟩ := tk
  simp only at HA HC
  go_enter Tryz.func86, Tryz.ntmps86
  go_wp2_with (first
    | (go_at_call 83; (with_reducible refine (HX2.out.2 _ GB.out.par).mono ?_); rintro e wc ⟨rfl, hg⟩; have GC := hidden (GB.out.trans hg); have BC := BB.out.grown hg.grown (fun e => (HBW.out NE.out).2 (Option.some.inj e).symm); have NC := hidden (NB.out.grown hg.grown HPW.out.lt); have RC := HR0.out.grown GC.out.grown (fun e => HBK.out.2 (Option.some.inj e).symm); have c0 : wc.cell? ⟨w1.heap.size, 0, none⟩ = some (.int .u8 x.kind) := BC.cell (k := 0) rfl; have r0 : wc.cell? ⟨W.heap.size, 0, none⟩ = some (.int .u8 0) := RC.cell (k := 0) rfl; have f0 := RC.frozen 0; have c1 : wc.cell? ⟨w1.heap.size, 1, none⟩ = some (.string (str x.name)) := BC.cell (k := 1) rfl; have r1 : wc.cell? ⟨W.heap.size, 1, none⟩ = some (.string ⟨#[]⟩) := RC.cell (k := 1) rfl; have f1 := RC.frozen 1; have c2 : wc.cell? ⟨w1.heap.size, 2, none⟩ = some (.string (str x.tag)) := BC.cell (k := 2) rfl; have r2 : wc.cell? ⟨W.heap.size, 2, none⟩ = some (.string ⟨#[]⟩) := RC.cell (k := 2) rfl; have f2 := RC.frozen 2; have c3 : wc.cell? ⟨w1.heap.size, 3, none⟩ = some (.slice a x.nums.length c) := BC.cell (k := 3) rfl; have r3 : wc.cell? ⟨W.heap.size, 3, none⟩ = some (.slice none 0 0) := RC.cell (k := 3) rfl; have f3 := RC.frozen 3; have c4 : wc.cell? ⟨w1.heap.size, 4, none⟩ = some (.string (str x.frm.name)) := BC.cell (k := 4) rfl; have r4 : wc.cell? ⟨W.heap.size, 4, none⟩ = some (.string ⟨#[]⟩) := RC.cell (k := 4) rfl; have f4 := RC.frozen 4; have c5 : wc.cell? ⟨w1.heap.size, 5, none⟩ = some (.int .i64 x.frm.port) := BC.cell (k := 5) rfl; have r5 : wc.cell? ⟨W.heap.size, 5, none⟩ = some (.int .i64 0) := RC.cell (k := 5) rfl; have f5 := RC.frozen 5; have c6 : wc.cell? ⟨w1.heap.size, 6, none⟩ = some (.int .i64 x.frm.place) := BC.cell (k := 6) rfl; have r6 : wc.cell? ⟨W.heap.size, 6, none⟩ = some (.int .i64 0) := RC.cell (k := 6) rfl; have f6 := RC.frozen 6; have c7 : wc.cell? ⟨w1.heap.size, 7, none⟩ = some (.string (str x.to.name)) := BC.cell (k := 7) rfl; have r7 : wc.cell? ⟨W.heap.size, 7, none⟩ = some (.string ⟨#[]⟩) := RC.cell (k := 7) rfl; have f7 := RC.frozen 7; have c8 : wc.cell? ⟨w1.heap.size, 8, none⟩ = some (.int .i64 x.to.port) := BC.cell (k := 8) rfl; have r8 : wc.cell? ⟨W.heap.size, 8, none⟩ = some (.int .i64 0) := RC.cell (k := 8) rfl; have f8 := RC.frozen 8; have c9 : wc.cell? ⟨w1.heap.size, 9, none⟩ = some (.int .i64 x.to.place) := BC.cell (k := 9) rfl; have r9 : wc.cell? ⟨W.heap.size, 9, none⟩ = some (.int .i64 0) := RC.cell (k := 9) rfl; have f9 := RC.frozen 9; have c10 : wc.cell? ⟨w1.heap.size, 10, none⟩ = some (.int .i64 x.place) := BC.cell (k := 10) rfl; have r10 : wc.cell? ⟨W.heap.size, 10, none⟩ = some (.int .i64 0) := RC.cell (k := 10) rfl; have f10 := RC.frozen 10; clear BC RC; clear hg)
    | (go_at_call 138; (with_reducible refine (HC.out _ _ NE.out G2.out B2.out).mono ?_); rintro e wb ⟨rfl, ⟨ns, hbk, hin⟩, hg, hj⟩; obtain ⟨a, c, rfl⟩ := hin.shape; have GB := hidden hg; have BB := hidden hbk; have NB := hidden hin; have HX2 := hidden (HX.out hj); clear hg hj hbk hin)
    | (go_at_call 85; (with_reducible refine (HS0.out _ G1.out.par).mono ?_); rintro e w2 ⟨rfl, hb⟩; have G2 := hidden (G1.out.later hb); have B2 := hidden (B1.out.below hb); clear hb)
    | (go_at_call 46; (with_reducible refine HA.out.mono ?_); rintro e w1 ⟨rfl, hb⟩; have NE := hidden hb.size; have hb2 := hb.trans (((Below.refl w1.heap.size w1).alloc (Nat.le_refl _) (.cells #[.int .u8 0, .string ⟨#[]⟩, .string ⟨#[]⟩, .slice none 0 0, .string ⟨#[]⟩, .int .i64 0, .int .i64 0, .string ⟨#[]⟩, .int .i64 0, .int .i64 0, .int .i64 pl] 103)).mono hb.size); have G1 := hidden (Goes.stay HPW.out hb2); have B1 : Hid (Blk 103 w1.heap.size (w1.alloc (.cells #[.int .u8 0, .string ⟨#[]⟩, .string ⟨#[]⟩, .slice none 0 0, .string ⟨#[]⟩, .int .i64 0, .int .i64 0, .string ⟨#[]⟩, .int .i64 0, .int .i64 0, .int .i64 pl] 103)) (itC_k 0 [] [] (.slice none 0 0) noPlc_k noPlc_k pl)) := blk_new _ _ _; clear hb hb2))
  exact bodyPost_ret (v := .agg (itC_k x.kind x.name x.tag (.slice a x.nums.length c) x.frm x.to x.place)) (by simp [results, Tryz.results86, go_sem, r0, r1, r2, r3, r4, r5, r6, r7, r8, r9, r10, itC_k]) rfl ⟨⟨a, c, rfl, ((((((((((((NC.out.put HWL.out).put HWL.out).put HWL.out).put HWL.out).put HWL.out).put HWL.out).put HWL.out).put HWL.out).put HWL.out).put HWL.out).put HWL.out)).mono (Nat.le_of_lt HWL.out)⟩, ((((((((((((show Goes P v ts j2 W wc from ⟨GC.out.par, grown_of_below HB0.out GC.out.grown⟩).put HBK.out (Nat.le_refl _) _).put HBK.out (Nat.le_refl _) _).put HBK.out (Nat.le_refl _) _).put HBK.out (Nat.le_refl _) _).put HBK.out (Nat.le_refl _) _).put HBK.out (Nat.le_refl _) _).put HBK.out (Nat.le_refl _) _).put HBK.out (Nat.le_refl _) _).put HBK.out (Nat.le_refl _) _).put HBK.out (Nat.le_refl _) _).put HBK.out (Nat.le_refl _) _), HX2.out.1⟩
set_option maxRecDepth 100000 in
set_option maxHeartbeats 4000000 in
theorem item_edge_body (P : Nat) (v : Value) (ts : List Tok) (i : Nat) (W : World) (h : Par P v ts i W) (hE : Ended ts) (hi : i < ts.length) (hl : ts.length ≤ 2000000) (t0 : (nthT ts i).text ≠ [97, 99, 116, 111, 114]) (t1 : (nthT ts i).text = [101, 100, 103, 101]) (j1 : Nat) (hr : edgeR ts i = (none, j1)) :
    Calls Tryz.prog 86 #[.pointer (some ⟨P, 0, none⟩)] W (ItemEnd P v ts W (itemR ts i)) := by
  have HM : itemR ts i = (none, j1) := by unfold itemR bodyR; rw [if_neg t0, if_pos t1, hr, then_none]
  rw [HM]
  show Calls _ _ _ _ (fun e w' => e = .panicked tokPanic ∧ Goes P v ts j1 W w' ∧ j1 < ts.length)
  clear HM
  have hb0 := (Below.refl W.heap.size W).alloc (Nat.le_refl _) (.cells #[.int .u8 0, .string ⟨#[]⟩, .string ⟨#[]⟩, .slice none 0 0, .string ⟨#[]⟩, .int .i64 0, .int .i64 0, .string ⟨#[]⟩, .int .i64 0, .int .i64 0, .int .i64 0] 103)
  have HBK : Hid (v.ownBlock ≠ some W.heap.size ∧ P ≠ W.heap.size) := h.blk (Nat.le_refl _)
  have HB0 := hidden hb0
  have hR0 := blk_new 103 W #[.int .u8 0, .string ⟨#[]⟩, .string ⟨#[]⟩, .slice none 0 0, .string ⟨#[]⟩, .int .i64 0, .int .i64 0, .string ⟨#[]⟩, .int .i64 0, .int .i64 0, .int .i64 0]
  have hP1 := h.below hb0
  have hWs : (W.alloc (.cells #[.int .u8 0, .string ⟨#[]⟩, .string ⟨#[]⟩, .slice none 0 0, .string ⟨#[]⟩, .int .i64 0, .int .i64 0, .string ⟨#[]⟩, .int .i64 0, .int .i64 0, .int .i64 0] 103)).heap.size = W.heap.size + 1 := by simp
  have ff := tok_f3
  obtain ⟨W0, hW0⟩ : ∃ W0, W0 = W.alloc (.cells #[.int .u8 0, .string ⟨#[]⟩, .string ⟨#[]⟩, .slice none 0 0, .string ⟨#[]⟩, .int .i64 0, .int .i64 0, .string ⟨#[]⟩, .int .i64 0, .int .i64 0, .int .i64 0] 103) := ⟨_, rfl⟩
  rw [← hW0] at hb0 hR0 hP1 hWs HB0
  have HR0 := hidden hR0
  have HA := hidden (ahead_at P v ts i W0 hP1 hi hl)
  have HPW := hidden hP1
  have HBW : Hid (∀ {n : Nat}, W0.heap.size ≤ n → v.ownBlock ≠ some n ∧ P ≠ n) := fun hn => hP1.blk hn
  have HC : Hid (∀ I w1, W0.heap.size ≤ I → Goes P v ts i W0 w1 → Blk 103 I w1 (itC_k 0 [] [] (.slice none 0 0) noPlc_k noPlc_k (nthT ts i).place) → Calls Tryz.prog 139 #[.pointer (some ⟨P, 0, none⟩), .pointer (some ⟨I, 0, none⟩)] w1 fun e w' => e = .panicked tokPanic ∧ Goes P v ts j1 W0 w' ∧ j1 < ts.length) := fun I w1 q1 q2 q3 => by
    have := edge_any P v ts i W0 w1 I _ rfl q2 (fun hn => hP1.blk hn) q1 q3 hE hi hl t1 hP1
    rw [hr] at this
    exact this
  have HS0 : Hid (∀ w1, Par P v ts i w1 → Calls Tryz.prog 85 #[.pointer (some ⟨P, 0, none⟩), .string ⟨#[97, 99, 116, 111, 114]⟩] w1 fun e w' => e = .returned (.bool false) ∧ Below w1.heap.size w1 w') := fun w1 q => by
    have := says_at P v ts i w1 q hi hl [97, 99, 116, 111, 114]
    rw [decide_eq_false t0] at this
    exact this
  have HS1 : Hid (∀ w1, Par P v ts i w1 → Calls Tryz.prog 85 #[.pointer (some ⟨P, 0, none⟩), .string ⟨#[101, 100, 103, 101]⟩] w1 fun e w' => e = .returned (.bool true) ∧ Below w1.heap.size w1 w') := fun w1 q => by
    have := says_at P v ts i w1 q hi hl [101, 100, 103, 101]
    rw [decide_eq_true t1] at this
    exact this
  have HWL : Hid (W.heap.size < W0.heap.size) := by show _ < _; rw [hWs]; omega
  clear hWs
  clear h hb0 hR0 hP1 hr t0 t1
  subst hW0
  unfold tokV at HA
  generalize nthT ts i = tk at *
  obtain ⟨so, tx, nm, pl⟩ := tk
  simp only at HA HC
  go_enter Tryz.func86, Tryz.ntmps86
  go_wp2_with (first
    | (go_at_call 139; (with_reducible refine (HC.out _ _ NE.out G3.out B3.out).mono ?_); rintro e wb ⟨rfl, hg, hj⟩; have GB := hidden hg; have HJ := hidden hj; clear hg hj)
    | (go_at_call 85; (with_reducible refine (HS1.out _ G2.out.par).mono ?_); rintro e w3 ⟨rfl, hb⟩; have G3 := hidden (G2.out.later hb); have B3 := hidden (B2.out.below hb); clear hb)
    | (go_at_call 85; (with_reducible refine (HS0.out _ G1.out.par).mono ?_); rintro e w2 ⟨rfl, hb⟩; have G2 := hidden (G1.out.later hb); have B2 := hidden (B1.out.below hb); clear hb)
    | (go_at_call 46; (with_reducible refine HA.out.mono ?_); rintro e w1 ⟨rfl, hb⟩; have NE := hidden hb.size; have hb2 := hb.trans (((Below.refl w1.heap.size w1).alloc (Nat.le_refl _) (.cells #[.int .u8 0, .string ⟨#[]⟩, .string ⟨#[]⟩, .slice none 0 0, .string ⟨#[]⟩, .int .i64 0, .int .i64 0, .string ⟨#[]⟩, .int .i64 0, .int .i64 0, .int .i64 pl] 103)).mono hb.size); have G1 := hidden (Goes.stay HPW.out hb2); have B1 : Hid (Blk 103 w1.heap.size (w1.alloc (.cells #[.int .u8 0, .string ⟨#[]⟩, .string ⟨#[]⟩, .slice none 0 0, .string ⟨#[]⟩, .int .i64 0, .int .i64 0, .string ⟨#[]⟩, .int .i64 0, .int .i64 0, .int .i64 pl] 103)) (itC_k 0 [] [] (.slice none 0 0) noPlc_k noPlc_k pl)) := blk_new _ _ _; clear hb hb2))
  exact ⟨rfl, rfl, ⟨GB.out.par, grown_of_below HB0.out GB.out.grown⟩, HJ.out⟩
set_option maxRecDepth 100000 in
set_option maxHeartbeats 4000000 in
theorem item_edge_semi (P : Nat) (v : Value) (ts : List Tok) (i : Nat) (W : World) (h : Par P v ts i W) (hE : Ended ts) (hi : i < ts.length) (hl : ts.length ≤ 2000000) (t0 : (nthT ts i).text ≠ [97, 99, 116, 111, 114]) (t1 : (nthT ts i).text = [101, 100, 103, 101]) (x : Itm_k) (j1 j2 : Nat) (hr : edgeR ts i = (some x, j1)) (hs : textR ts [59] j1 = (none, j2)) :
    Calls Tryz.prog 86 #[.pointer (some ⟨P, 0, none⟩)] W (ItemEnd P v ts W (itemR ts i)) := by
  have HM : itemR ts i = (none, j2) := by unfold itemR bodyR; rw [if_neg t0, if_pos t1, hr, then_some, hs, then_none]
  rw [HM]
  show Calls _ _ _ _ (fun e w' => e = .panicked tokPanic ∧ Goes P v ts j2 W w' ∧ j2 < ts.length)
  clear HM
  have hb0 := (Below.refl W.heap.size W).alloc (Nat.le_refl _) (.cells #[.int .u8 0, .string ⟨#[]⟩, .string ⟨#[]⟩, .slice none 0 0, .string ⟨#[]⟩, .int .i64 0, .int .i64 0, .string ⟨#[]⟩, .int .i64 0, .int .i64 0, .int .i64 0] 103)
  have HBK : Hid (v.ownBlock ≠ some W.heap.size ∧ P ≠ W.heap.size) := h.blk (Nat.le_refl _)
  have HB0 := hidden hb0
  have hR0 := blk_new 103 W #[.int .u8 0, .string ⟨#[]⟩, .string ⟨#[]⟩, .slice none 0 0, .string ⟨#[]⟩, .int .i64 0, .int .i64 0, .string ⟨#[]⟩, .int .i64 0, .int .i64 0, .int .i64 0]
  have hP1 := h.below hb0
  have hWs : (W.alloc (.cells #[.int .u8 0, .string ⟨#[]⟩, .string ⟨#[]⟩, .slice none 0 0, .string ⟨#[]⟩, .int .i64 0, .int .i64 0, .string ⟨#[]⟩, .int .i64 0, .int .i64 0, .int .i64 0] 103)).heap.size = W.heap.size + 1 := by simp
  have ff := tok_f3
  obtain ⟨W0, hW0⟩ : ∃ W0, W0 = W.alloc (.cells #[.int .u8 0, .string ⟨#[]⟩, .string ⟨#[]⟩, .slice none 0 0, .string ⟨#[]⟩, .int .i64 0, .int .i64 0, .string ⟨#[]⟩, .int .i64 0, .int .i64 0, .int .i64 0] 103) := ⟨_, rfl⟩
  rw [← hW0] at hb0 hR0 hP1 hWs HB0
  have HR0 := hidden hR0
  have HA := hidden (ahead_at P v ts i W0 hP1 hi hl)
  have HPW := hidden hP1
  have HBW : Hid (∀ {n : Nat}, W0.heap.size ≤ n → v.ownBlock ≠ some n ∧ P ≠ n) := fun hn => hP1.blk hn
  have HC : Hid (∀ I w1, W0.heap.size ≤ I → Goes P v ts i W0 w1 → Blk 103 I w1 (itC_k 0 [] [] (.slice none 0 0) noPlc_k noPlc_k (nthT ts i).place) → Calls Tryz.prog 139 #[.pointer (some ⟨P, 0, none⟩), .pointer (some ⟨I, 0, none⟩)] w1 fun e w' => e = .returned (.tuple #[]) ∧ (∃ ns, Blk 103 I w' (itC_k x.kind x.name x.tag ns x.frm x.to x.place) ∧ Ints_k W0.heap.size w' ns x.nums) ∧ Goes P v ts j1 W0 w' ∧ j1 < ts.length) := fun I w1 q1 q2 q3 => by
    have := edge_any P v ts i W0 w1 I _ rfl q2 (fun hn => hP1.blk hn) q1 q3 hE hi hl t1 hP1
    rw [hr] at this
    exact this
  have HS0 : Hid (∀ w1, Par P v ts i w1 → Calls Tryz.prog 85 #[.pointer (some ⟨P, 0, none⟩), .string ⟨#[97, 99, 116, 111, 114]⟩] w1 fun e w' => e = .returned (.bool false) ∧ Below w1.heap.size w1 w') := fun w1 q => by
    have := says_at P v ts i w1 q hi hl [97, 99, 116, 111, 114]
    rw [decide_eq_false t0] at this
    exact this
  have HS1 : Hid (∀ w1, Par P v ts i w1 → Calls Tryz.prog 85 #[.pointer (some ⟨P, 0, none⟩), .string ⟨#[101, 100, 103, 101]⟩] w1 fun e w' => e = .returned (.bool true) ∧ Below w1.heap.size w1 w') := fun w1 q => by
    have := says_at P v ts i w1 q hi hl [101, 100, 103, 101]
    rw [decide_eq_true t1] at this
    exact this
  have HX : Hid (j1 < ts.length → j2 < ts.length ∧ ∀ w1, Par P v ts j1 w1 → Calls Tryz.prog 83 #[.pointer (some ⟨P, 0, none⟩), .string ⟨#[59]⟩] w1 fun e w' => e = .panicked tokPanic ∧ Goes P v ts j2 w1 w') := fun hj1 => ⟨(expect_none hs hj1 hl P v).1, (expect_none hs hj1 hl P v).2⟩
  have HWL : Hid (W.heap.size < W0.heap.size) := by show _ < _; rw [hWs]; omega
  clear hWs
  clear h hb0 hR0 hP1 hr hs t0 t1
  subst hW0
  unfold tokV at HA
  generalize nthT ts i = tk at *
  obtain ⟨so, tx, nm, pl⟩ := tk
  simp only at HA HC
  go_enter Tryz.func86, Tryz.ntmps86
  go_wp2_with (first
    | (go_at_call 83; (with_reducible refine (HX2.out.2 _ GB.out.par).mono ?_); rintro e wc ⟨rfl, hg⟩; have GC := hidden (GB.out.trans hg); clear hg)
    | (go_at_call 139; (with_reducible refine (HC.out _ _ NE.out G3.out B3.out).mono ?_); rintro e wb ⟨rfl, ⟨ns, hbk, hin⟩, hg, hj⟩; obtain ⟨a, c, rfl⟩ := hin.shape; have GB := hidden hg; have BB := hidden hbk; have NB := hidden hin; have HX2 := hidden (HX.out hj); clear hg hj hbk hin)
    | (go_at_call 85; (with_reducible refine (HS1.out _ G2.out.par).mono ?_); rintro e w3 ⟨rfl, hb⟩; have G3 := hidden (G2.out.later hb); have B3 := hidden (B2.out.below hb); clear hb)
    | (go_at_call 85; (with_reducible refine (HS0.out _ G1.out.par).mono ?_); rintro e w2 ⟨rfl, hb⟩; have G2 := hidden (G1.out.later hb); have B2 := hidden (B1.out.below hb); clear hb)
    | (go_at_call 46; (with_reducible refine HA.out.mono ?_); rintro e w1 ⟨rfl, hb⟩; have NE := hidden hb.size; have hb2 := hb.trans (((Below.refl w1.heap.size w1).alloc (Nat.le_refl _) (.cells #[.int .u8 0, .string ⟨#[]⟩, .string ⟨#[]⟩, .slice none 0 0, .string ⟨#[]⟩, .int .i64 0, .int .i64 0, .string ⟨#[]⟩, .int .i64 0, .int .i64 0, .int .i64 pl] 103)).mono hb.size); have G1 := hidden (Goes.stay HPW.out hb2); have B1 : Hid (Blk 103 w1.heap.size (w1.alloc (.cells #[.int .u8 0, .string ⟨#[]⟩, .string ⟨#[]⟩, .slice none 0 0, .string ⟨#[]⟩, .int .i64 0, .int .i64 0, .string ⟨#[]⟩, .int .i64 0, .int .i64 0, .int .i64 pl] 103)) (itC_k 0 [] [] (.slice none 0 0) noPlc_k noPlc_k pl)) := blk_new _ _ _; clear hb hb2))
  exact ⟨rfl, rfl, ⟨GC.out.par, grown_of_below HB0.out GC.out.grown⟩, HX2.out.1⟩
set_option maxRecDepth 100000 in
set_option maxHeartbeats 4000000 in
theorem item_edge_all (P : Nat) (v : Value) (ts : List Tok) (i : Nat) (W : World) (h : Par P v ts i W) (hE : Ended ts) (hi : i < ts.length) (hl : ts.length ≤ 2000000) (t0 : (nthT ts i).text ≠ [97, 99, 116, 111, 114]) (t1 : (nthT ts i).text = [101, 100, 103, 101]) (x : Itm_k) (j1 j2 : Nat) (hr : edgeR ts i = (some x, j1)) (hs : textR ts [59] j1 = (some (), j2)) :
    Calls Tryz.prog 86 #[.pointer (some ⟨P, 0, none⟩)] W (ItemEnd P v ts W (itemR ts i)) := by
  have HM : itemR ts i = (some x, j2) := by unfold itemR bodyR; rw [if_neg t0, if_pos t1, hr, then_some, hs, then_some]
  rw [HM]
  show Calls _ _ _ _ (fun e w' => (∃ a c, e = .returned (.agg (itC_k x.kind x.name x.tag (.slice a x.nums.length c) x.frm x.to x.place)) ∧ Ints_k W.heap.size w' (.slice a x.nums.length c) x.nums) ∧ Goes P v ts j2 W w' ∧ j2 < ts.length)
  clear HM
  have hb0 := (Below.refl W.heap.size W).alloc (Nat.le_refl _) (.cells #[.int .u8 0, .string ⟨#[]⟩, .string ⟨#[]⟩, .slice none 0 0, .string ⟨#[]⟩, .int .i64 0, .int .i64 0, .string ⟨#[]⟩, .int .i64 0, .int .i64 0, .int .i64 0] 103)
  have HBK : Hid (v.ownBlock ≠ some W.heap.size ∧ P ≠ W.heap.size) := h.blk (Nat.le_refl _)
  have HB0 := hidden hb0
  have hR0 := blk_new 103 W #[.int .u8 0, .string ⟨#[]⟩, .string ⟨#[]⟩, .slice none 0 0, .string ⟨#[]⟩, .int .i64 0, .int .i64 0, .string ⟨#[]⟩, .int .i64 0, .int .i64 0, .int .i64 0]
  have hP1 := h.below hb0
  have hWs : (W.alloc (.cells #[.int .u8 0, .string ⟨#[]⟩, .string ⟨#[]⟩, .slice none 0 0, .string ⟨#[]⟩, .int .i64 0, .int .i64 0, .string ⟨#[]⟩, .int .i64 0, .int .i64 0, .int .i64 0] 103)).heap.size = W.heap.size + 1 := by simp
  have ff := tok_f3
  obtain ⟨W0, hW0⟩ : ∃ W0, W0 = W.alloc (.cells #[.int .u8 0, .string ⟨#[]⟩, .string ⟨#[]⟩, .slice none 0 0, .string ⟨#[]⟩, .int .i64 0, .int .i64 0, .string ⟨#[]⟩, .int .i64 0, .int .i64 0, .int .i64 0] 103) := ⟨_, rfl⟩
  rw [← hW0] at hb0 hR0 hP1 hWs HB0
  have HR0 := hidden hR0
  have HA := hidden (ahead_at P v ts i W0 hP1 hi hl)
  have HPW := hidden hP1
  have HBW : Hid (∀ {n : Nat}, W0.heap.size ≤ n → v.ownBlock ≠ some n ∧ P ≠ n) := fun hn => hP1.blk hn
  have HC : Hid (∀ I w1, W0.heap.size ≤ I → Goes P v ts i W0 w1 → Blk 103 I w1 (itC_k 0 [] [] (.slice none 0 0) noPlc_k noPlc_k (nthT ts i).place) → Calls Tryz.prog 139 #[.pointer (some ⟨P, 0, none⟩), .pointer (some ⟨I, 0, none⟩)] w1 fun e w' => e = .returned (.tuple #[]) ∧ (∃ ns, Blk 103 I w' (itC_k x.kind x.name x.tag ns x.frm x.to x.place) ∧ Ints_k W0.heap.size w' ns x.nums) ∧ Goes P v ts j1 W0 w' ∧ j1 < ts.length) := fun I w1 q1 q2 q3 => by
    have := edge_any P v ts i W0 w1 I _ rfl q2 (fun hn => hP1.blk hn) q1 q3 hE hi hl t1 hP1
    rw [hr] at this
    exact this
  have HS0 : Hid (∀ w1, Par P v ts i w1 → Calls Tryz.prog 85 #[.pointer (some ⟨P, 0, none⟩), .string ⟨#[97, 99, 116, 111, 114]⟩] w1 fun e w' => e = .returned (.bool false) ∧ Below w1.heap.size w1 w') := fun w1 q => by
    have := says_at P v ts i w1 q hi hl [97, 99, 116, 111, 114]
    rw [decide_eq_false t0] at this
    exact this
  have HS1 : Hid (∀ w1, Par P v ts i w1 → Calls Tryz.prog 85 #[.pointer (some ⟨P, 0, none⟩), .string ⟨#[101, 100, 103, 101]⟩] w1 fun e w' => e = .returned (.bool true) ∧ Below w1.heap.size w1 w') := fun w1 q => by
    have := says_at P v ts i w1 q hi hl [101, 100, 103, 101]
    rw [decide_eq_true t1] at this
    exact this
  have HX : Hid (j1 < ts.length → j2 < ts.length ∧ ∀ w1, Par P v ts j1 w1 → Calls Tryz.prog 83 #[.pointer (some ⟨P, 0, none⟩), .string ⟨#[59]⟩] w1 fun e w' => e = .returned (.tuple #[]) ∧ Goes P v ts j2 w1 w') := fun hj1 => ⟨(expect_some hs hE hj1 hl (by decide) P v).1, (expect_some hs hE hj1 hl (by decide) P v).2⟩
  have HWL : Hid (W.heap.size < W0.heap.size) := by show _ < _; rw [hWs]; omega
  clear hWs
  clear h hb0 hR0 hP1 hr hs t0 t1
  subst hW0
  unfold tokV at HA
  generalize nthT ts i = tk at *
  obtain ⟨so, tx, nm, pl⟩ := tk
  simp only at HA HC
  go_enter Tryz.func86, Tryz.ntmps86
  go_wp2_with (first
    | (go_at_call 83; (with_reducible refine (HX2.out.2 _ GB.out.par).mono ?_); rintro e wc ⟨rfl, hg⟩; have GC := hidden (GB.out.trans hg); have BC := BB.out.grown hg.grown (fun e => (HBW.out NE.out).2 (Option.some.inj e).symm); have NC := hidden (NB.out.grown hg.grown HPW.out.lt); have RC := HR0.out.grown GC.out.grown (fun e => HBK.out.2 (Option.some.inj e).symm); have c0 : wc.cell? ⟨w1.heap.size, 0, none⟩ = some (.int .u8 x.kind) := BC.cell (k := 0) rfl; have r0 : wc.cell? ⟨W.heap.size, 0, none⟩ = some (.int .u8 0) := RC.cell (k := 0) rfl; have f0 := RC.frozen 0; have c1 : wc.cell? ⟨w1.heap.size, 1, none⟩ = some (.string (str x.name)) := BC.cell (k := 1) rfl; have r1 : wc.cell? ⟨W.heap.size, 1, none⟩ = some (.string ⟨#[]⟩) := RC.cell (k := 1) rfl; have f1 := RC.frozen 1; have c2 : wc.cell? ⟨w1.heap.size, 2, none⟩ = some (.string (str x.tag)) := BC.cell (k := 2) rfl; have r2 : wc.cell? ⟨W.heap.size, 2, none⟩ = some (.string ⟨#[]⟩) := RC.cell (k := 2) rfl; have f2 := RC.frozen 2; have c3 : wc.cell? ⟨w1.heap.size, 3, none⟩ = some (.slice a x.nums.length c) := BC.cell (k := 3) rfl; have r3 : wc.cell? ⟨W.heap.size, 3, none⟩ = some (.slice none 0 0) := RC.cell (k := 3) rfl; have f3 := RC.frozen 3; have c4 : wc.cell? ⟨w1.heap.size, 4, none⟩ = some (.string (str x.frm.name)) := BC.cell (k := 4) rfl; have r4 : wc.cell? ⟨W.heap.size, 4, none⟩ = some (.string ⟨#[]⟩) := RC.cell (k := 4) rfl; have f4 := RC.frozen 4; have c5 : wc.cell? ⟨w1.heap.size, 5, none⟩ = some (.int .i64 x.frm.port) := BC.cell (k := 5) rfl; have r5 : wc.cell? ⟨W.heap.size, 5, none⟩ = some (.int .i64 0) := RC.cell (k := 5) rfl; have f5 := RC.frozen 5; have c6 : wc.cell? ⟨w1.heap.size, 6, none⟩ = some (.int .i64 x.frm.place) := BC.cell (k := 6) rfl; have r6 : wc.cell? ⟨W.heap.size, 6, none⟩ = some (.int .i64 0) := RC.cell (k := 6) rfl; have f6 := RC.frozen 6; have c7 : wc.cell? ⟨w1.heap.size, 7, none⟩ = some (.string (str x.to.name)) := BC.cell (k := 7) rfl; have r7 : wc.cell? ⟨W.heap.size, 7, none⟩ = some (.string ⟨#[]⟩) := RC.cell (k := 7) rfl; have f7 := RC.frozen 7; have c8 : wc.cell? ⟨w1.heap.size, 8, none⟩ = some (.int .i64 x.to.port) := BC.cell (k := 8) rfl; have r8 : wc.cell? ⟨W.heap.size, 8, none⟩ = some (.int .i64 0) := RC.cell (k := 8) rfl; have f8 := RC.frozen 8; have c9 : wc.cell? ⟨w1.heap.size, 9, none⟩ = some (.int .i64 x.to.place) := BC.cell (k := 9) rfl; have r9 : wc.cell? ⟨W.heap.size, 9, none⟩ = some (.int .i64 0) := RC.cell (k := 9) rfl; have f9 := RC.frozen 9; have c10 : wc.cell? ⟨w1.heap.size, 10, none⟩ = some (.int .i64 x.place) := BC.cell (k := 10) rfl; have r10 : wc.cell? ⟨W.heap.size, 10, none⟩ = some (.int .i64 0) := RC.cell (k := 10) rfl; have f10 := RC.frozen 10; clear BC RC; clear hg)
    | (go_at_call 139; (with_reducible refine (HC.out _ _ NE.out G3.out B3.out).mono ?_); rintro e wb ⟨rfl, ⟨ns, hbk, hin⟩, hg, hj⟩; obtain ⟨a, c, rfl⟩ := hin.shape; have GB := hidden hg; have BB := hidden hbk; have NB := hidden hin; have HX2 := hidden (HX.out hj); clear hg hj hbk hin)
    | (go_at_call 85; (with_reducible refine (HS1.out _ G2.out.par).mono ?_); rintro e w3 ⟨rfl, hb⟩; have G3 := hidden (G2.out.later hb); have B3 := hidden (B2.out.below hb); clear hb)
    | (go_at_call 85; (with_reducible refine (HS0.out _ G1.out.par).mono ?_); rintro e w2 ⟨rfl, hb⟩; have G2 := hidden (G1.out.later hb); have B2 := hidden (B1.out.below hb); clear hb)
    | (go_at_call 46; (with_reducible refine HA.out.mono ?_); rintro e w1 ⟨rfl, hb⟩; have NE := hidden hb.size; have hb2 := hb.trans (((Below.refl w1.heap.size w1).alloc (Nat.le_refl _) (.cells #[.int .u8 0, .string ⟨#[]⟩, .string ⟨#[]⟩, .slice none 0 0, .string ⟨#[]⟩, .int .i64 0, .int .i64 0, .string ⟨#[]⟩, .int .i64 0, .int .i64 0, .int .i64 pl] 103)).mono hb.size); have G1 := hidden (Goes.stay HPW.out hb2); have B1 : Hid (Blk 103 w1.heap.size (w1.alloc (.cells #[.int .u8 0, .string ⟨#[]⟩, .string ⟨#[]⟩, .slice none 0 0, .string ⟨#[]⟩, .int .i64 0, .int .i64 0, .string ⟨#[]⟩, .int .i64 0, .int .i64 0, .int .i64 pl] 103)) (itC_k 0 [] [] (.slice none 0 0) noPlc_k noPlc_k pl)) := blk_new _ _ _; clear hb hb2))
  exact bodyPost_ret (v := .agg (itC_k x.kind x.name x.tag (.slice a x.nums.length c) x.frm x.to x.place)) (by simp [results, Tryz.results86, go_sem, r0, r1, r2, r3, r4, r5, r6, r7, r8, r9, r10, itC_k]) rfl ⟨⟨a, c, rfl, ((((((((((((NC.out.put HWL.out).put HWL.out).put HWL.out).put HWL.out).put HWL.out).put HWL.out).put HWL.out).put HWL.out).put HWL.out).put HWL.out).put HWL.out)).mono (Nat.le_of_lt HWL.out)⟩, ((((((((((((show Goes P v ts j2 W wc from ⟨GC.out.par, grown_of_below HB0.out GC.out.grown⟩).put HBK.out (Nat.le_refl _) _).put HBK.out (Nat.le_refl _) _).put HBK.out (Nat.le_refl _) _).put HBK.out (Nat.le_refl _) _).put HBK.out (Nat.le_refl _) _).put HBK.out (Nat.le_refl _) _).put HBK.out (Nat.le_refl _) _).put HBK.out (Nat.le_refl _) _).put HBK.out (Nat.le_refl _) _).put HBK.out (Nat.le_refl _) _).put HBK.out (Nat.le_refl _) _), HX2.out.1⟩
set_option maxRecDepth 100000 in
set_option maxHeartbeats 4000000 in
theorem item_in_body (P : Nat) (v : Value) (ts : List Tok) (i : Nat) (W : World) (h : Par P v ts i W) (hE : Ended ts) (hi : i < ts.length) (hl : ts.length ≤ 2000000) (t0 : (nthT ts i).text ≠ [97, 99, 116, 111, 114]) (t1 : (nthT ts i).text ≠ [101, 100, 103, 101]) (t2 : (nthT ts i).text = [105, 110]) (j1 : Nat) (hr : inR ts i = (none, j1)) :
    Calls Tryz.prog 86 #[.pointer (some ⟨P, 0, none⟩)] W (ItemEnd P v ts W (itemR ts i)) := by
  have HM : itemR ts i = (none, j1) := by unfold itemR bodyR; rw [if_neg t0, if_neg t1, if_pos t2, hr, then_none]
  rw [HM]
  show Calls _ _ _ _ (fun e w' => e = .panicked tokPanic ∧ Goes P v ts j1 W w' ∧ j1 < ts.length)
  clear HM
  have hb0 := (Below.refl W.heap.size W).alloc (Nat.le_refl _) (.cells #[.int .u8 0, .string ⟨#[]⟩, .string ⟨#[]⟩, .slice none 0 0, .string ⟨#[]⟩, .int .i64 0, .int .i64 0, .string ⟨#[]⟩, .int .i64 0, .int .i64 0, .int .i64 0] 103)
  have HBK : Hid (v.ownBlock ≠ some W.heap.size ∧ P ≠ W.heap.size) := h.blk (Nat.le_refl _)
  have HB0 := hidden hb0
  have hR0 := blk_new 103 W #[.int .u8 0, .string ⟨#[]⟩, .string ⟨#[]⟩, .slice none 0 0, .string ⟨#[]⟩, .int .i64 0, .int .i64 0, .string ⟨#[]⟩, .int .i64 0, .int .i64 0, .int .i64 0]
  have hP1 := h.below hb0
  have hWs : (W.alloc (.cells #[.int .u8 0, .string ⟨#[]⟩, .string ⟨#[]⟩, .slice none 0 0, .string ⟨#[]⟩, .int .i64 0, .int .i64 0, .string ⟨#[]⟩, .int .i64 0, .int .i64 0, .int .i64 0] 103)).heap.size = W.heap.size + 1 := by simp
  have ff := tok_f3
  obtain ⟨W0, hW0⟩ : ∃ W0, W0 = W.alloc (.cells #[.int .u8 0, .string ⟨#[]⟩, .string ⟨#[]⟩, .slice none 0 0, .string ⟨#[]⟩, .int .i64 0, .int .i64 0, .string ⟨#[]⟩, .int .i64 0, .int .i64 0, .int .i64 0] 103) := ⟨_, rfl⟩
  rw [← hW0] at hb0 hR0 hP1 hWs HB0
  have HR0 := hidden hR0
  have HA := hidden (ahead_at P v ts i W0 hP1 hi hl)
  have HPW := hidden hP1
  have HBW : Hid (∀ {n : Nat}, W0.heap.size ≤ n → v.ownBlock ≠ some n ∧ P ≠ n) := fun hn => hP1.blk hn
  have HC : Hid (∀ I w1, W0.heap.size ≤ I → Goes P v ts i W0 w1 → Blk 103 I w1 (itC_k 0 [] [] (.slice none 0 0) noPlc_k noPlc_k (nthT ts i).place) → Calls Tryz.prog 140 #[.pointer (some ⟨P, 0, none⟩), .pointer (some ⟨I, 0, none⟩)] w1 fun e w' => e = .panicked tokPanic ∧ Goes P v ts j1 W0 w' ∧ j1 < ts.length) := fun I w1 q1 q2 q3 => by
    have := inB_any P v ts i W0 w1 I _ rfl q2 (fun hn => hP1.blk hn) q1 q3 hE hi hl t2
    rw [hr] at this
    exact this
  have HS0 : Hid (∀ w1, Par P v ts i w1 → Calls Tryz.prog 85 #[.pointer (some ⟨P, 0, none⟩), .string ⟨#[97, 99, 116, 111, 114]⟩] w1 fun e w' => e = .returned (.bool false) ∧ Below w1.heap.size w1 w') := fun w1 q => by
    have := says_at P v ts i w1 q hi hl [97, 99, 116, 111, 114]
    rw [decide_eq_false t0] at this
    exact this
  have HS1 : Hid (∀ w1, Par P v ts i w1 → Calls Tryz.prog 85 #[.pointer (some ⟨P, 0, none⟩), .string ⟨#[101, 100, 103, 101]⟩] w1 fun e w' => e = .returned (.bool false) ∧ Below w1.heap.size w1 w') := fun w1 q => by
    have := says_at P v ts i w1 q hi hl [101, 100, 103, 101]
    rw [decide_eq_false t1] at this
    exact this
  have HS2 : Hid (∀ w1, Par P v ts i w1 → Calls Tryz.prog 85 #[.pointer (some ⟨P, 0, none⟩), .string ⟨#[105, 110]⟩] w1 fun e w' => e = .returned (.bool true) ∧ Below w1.heap.size w1 w') := fun w1 q => by
    have := says_at P v ts i w1 q hi hl [105, 110]
    rw [decide_eq_true t2] at this
    exact this
  have HWL : Hid (W.heap.size < W0.heap.size) := by show _ < _; rw [hWs]; omega
  clear hWs
  clear h hb0 hR0 hP1 hr t0 t1 t2
  subst hW0
  unfold tokV at HA
  generalize nthT ts i = tk at *
  obtain ⟨so, tx, nm, pl⟩ := tk
  simp only at HA HC
  go_enter Tryz.func86, Tryz.ntmps86
  go_wp2_with (first
    | (go_at_call 140; (with_reducible refine (HC.out _ _ NE.out G4.out B4.out).mono ?_); rintro e wb ⟨rfl, hg, hj⟩; have GB := hidden hg; have HJ := hidden hj; clear hg hj)
    | (go_at_call 85; (with_reducible refine (HS2.out _ G3.out.par).mono ?_); rintro e w4 ⟨rfl, hb⟩; have G4 := hidden (G3.out.later hb); have B4 := hidden (B3.out.below hb); clear hb)
    | (go_at_call 85; (with_reducible refine (HS1.out _ G2.out.par).mono ?_); rintro e w3 ⟨rfl, hb⟩; have G3 := hidden (G2.out.later hb); have B3 := hidden (B2.out.below hb); clear hb)
    | (go_at_call 85; (with_reducible refine (HS0.out _ G1.out.par).mono ?_); rintro e w2 ⟨rfl, hb⟩; have G2 := hidden (G1.out.later hb); have B2 := hidden (B1.out.below hb); clear hb)
    | (go_at_call 46; (with_reducible refine HA.out.mono ?_); rintro e w1 ⟨rfl, hb⟩; have NE := hidden hb.size; have hb2 := hb.trans (((Below.refl w1.heap.size w1).alloc (Nat.le_refl _) (.cells #[.int .u8 0, .string ⟨#[]⟩, .string ⟨#[]⟩, .slice none 0 0, .string ⟨#[]⟩, .int .i64 0, .int .i64 0, .string ⟨#[]⟩, .int .i64 0, .int .i64 0, .int .i64 pl] 103)).mono hb.size); have G1 := hidden (Goes.stay HPW.out hb2); have B1 : Hid (Blk 103 w1.heap.size (w1.alloc (.cells #[.int .u8 0, .string ⟨#[]⟩, .string ⟨#[]⟩, .slice none 0 0, .string ⟨#[]⟩, .int .i64 0, .int .i64 0, .string ⟨#[]⟩, .int .i64 0, .int .i64 0, .int .i64 pl] 103)) (itC_k 0 [] [] (.slice none 0 0) noPlc_k noPlc_k pl)) := blk_new _ _ _; clear hb hb2))
  exact ⟨rfl, rfl, ⟨GB.out.par, grown_of_below HB0.out GB.out.grown⟩, HJ.out⟩
set_option maxRecDepth 100000 in
set_option maxHeartbeats 4000000 in
theorem item_in_semi (P : Nat) (v : Value) (ts : List Tok) (i : Nat) (W : World) (h : Par P v ts i W) (hE : Ended ts) (hi : i < ts.length) (hl : ts.length ≤ 2000000) (t0 : (nthT ts i).text ≠ [97, 99, 116, 111, 114]) (t1 : (nthT ts i).text ≠ [101, 100, 103, 101]) (t2 : (nthT ts i).text = [105, 110]) (x : Itm_k) (j1 j2 : Nat) (hr : inR ts i = (some x, j1)) (hs : textR ts [59] j1 = (none, j2)) :
    Calls Tryz.prog 86 #[.pointer (some ⟨P, 0, none⟩)] W (ItemEnd P v ts W (itemR ts i)) := by
  have HM : itemR ts i = (none, j2) := by unfold itemR bodyR; rw [if_neg t0, if_neg t1, if_pos t2, hr, then_some, hs, then_none]
  rw [HM]
  show Calls _ _ _ _ (fun e w' => e = .panicked tokPanic ∧ Goes P v ts j2 W w' ∧ j2 < ts.length)
  clear HM
  have hb0 := (Below.refl W.heap.size W).alloc (Nat.le_refl _) (.cells #[.int .u8 0, .string ⟨#[]⟩, .string ⟨#[]⟩, .slice none 0 0, .string ⟨#[]⟩, .int .i64 0, .int .i64 0, .string ⟨#[]⟩, .int .i64 0, .int .i64 0, .int .i64 0] 103)
  have HBK : Hid (v.ownBlock ≠ some W.heap.size ∧ P ≠ W.heap.size) := h.blk (Nat.le_refl _)
  have HB0 := hidden hb0
  have hR0 := blk_new 103 W #[.int .u8 0, .string ⟨#[]⟩, .string ⟨#[]⟩, .slice none 0 0, .string ⟨#[]⟩, .int .i64 0, .int .i64 0, .string ⟨#[]⟩, .int .i64 0, .int .i64 0, .int .i64 0]
  have hP1 := h.below hb0
  have hWs : (W.alloc (.cells #[.int .u8 0, .string ⟨#[]⟩, .string ⟨#[]⟩, .slice none 0 0, .string ⟨#[]⟩, .int .i64 0, .int .i64 0, .string ⟨#[]⟩, .int .i64 0, .int .i64 0, .int .i64 0] 103)).heap.size = W.heap.size + 1 := by simp
  have ff := tok_f3
  obtain ⟨W0, hW0⟩ : ∃ W0, W0 = W.alloc (.cells #[.int .u8 0, .string ⟨#[]⟩, .string ⟨#[]⟩, .slice none 0 0, .string ⟨#[]⟩, .int .i64 0, .int .i64 0, .string ⟨#[]⟩, .int .i64 0, .int .i64 0, .int .i64 0] 103) := ⟨_, rfl⟩
  rw [← hW0] at hb0 hR0 hP1 hWs HB0
  have HR0 := hidden hR0
  have HA := hidden (ahead_at P v ts i W0 hP1 hi hl)
  have HPW := hidden hP1
  have HBW : Hid (∀ {n : Nat}, W0.heap.size ≤ n → v.ownBlock ≠ some n ∧ P ≠ n) := fun hn => hP1.blk hn
  have HC : Hid (∀ I w1, W0.heap.size ≤ I → Goes P v ts i W0 w1 → Blk 103 I w1 (itC_k 0 [] [] (.slice none 0 0) noPlc_k noPlc_k (nthT ts i).place) → Calls Tryz.prog 140 #[.pointer (some ⟨P, 0, none⟩), .pointer (some ⟨I, 0, none⟩)] w1 fun e w' => e = .returned (.tuple #[]) ∧ (∃ ns, Blk 103 I w' (itC_k x.kind x.name x.tag ns x.frm x.to x.place) ∧ Ints_k W0.heap.size w' ns x.nums) ∧ Goes P v ts j1 W0 w' ∧ j1 < ts.length) := fun I w1 q1 q2 q3 => by
    have := inB_any P v ts i W0 w1 I _ rfl q2 (fun hn => hP1.blk hn) q1 q3 hE hi hl t2
    rw [hr] at this
    exact this
  have HS0 : Hid (∀ w1, Par P v ts i w1 → Calls Tryz.prog 85 #[.pointer (some ⟨P, 0, none⟩), .string ⟨#[97, 99, 116, 111, 114]⟩] w1 fun e w' => e = .returned (.bool false) ∧ Below w1.heap.size w1 w') := fun w1 q => by
    have := says_at P v ts i w1 q hi hl [97, 99, 116, 111, 114]
    rw [decide_eq_false t0] at this
    exact this
  have HS1 : Hid (∀ w1, Par P v ts i w1 → Calls Tryz.prog 85 #[.pointer (some ⟨P, 0, none⟩), .string ⟨#[101, 100, 103, 101]⟩] w1 fun e w' => e = .returned (.bool false) ∧ Below w1.heap.size w1 w') := fun w1 q => by
    have := says_at P v ts i w1 q hi hl [101, 100, 103, 101]
    rw [decide_eq_false t1] at this
    exact this
  have HS2 : Hid (∀ w1, Par P v ts i w1 → Calls Tryz.prog 85 #[.pointer (some ⟨P, 0, none⟩), .string ⟨#[105, 110]⟩] w1 fun e w' => e = .returned (.bool true) ∧ Below w1.heap.size w1 w') := fun w1 q => by
    have := says_at P v ts i w1 q hi hl [105, 110]
    rw [decide_eq_true t2] at this
    exact this
  have HX : Hid (j1 < ts.length → j2 < ts.length ∧ ∀ w1, Par P v ts j1 w1 → Calls Tryz.prog 83 #[.pointer (some ⟨P, 0, none⟩), .string ⟨#[59]⟩] w1 fun e w' => e = .panicked tokPanic ∧ Goes P v ts j2 w1 w') := fun hj1 => ⟨(expect_none hs hj1 hl P v).1, (expect_none hs hj1 hl P v).2⟩
  have HWL : Hid (W.heap.size < W0.heap.size) := by show _ < _; rw [hWs]; omega
  clear hWs
  clear h hb0 hR0 hP1 hr hs t0 t1 t2
  subst hW0
  unfold tokV at HA
  generalize nthT ts i = tk at *
  obtain ⟨so, tx, nm, pl⟩ := tk
  simp only at HA HC
  go_enter Tryz.func86, Tryz.ntmps86
  go_wp2_with (first
    | (go_at_call 83; (with_reducible refine (HX2.out.2 _ GB.out.par).mono ?_); rintro e wc ⟨rfl, hg⟩; have GC := hidden (GB.out.trans hg); clear hg)
    | (go_at_call 140; (with_reducible refine (HC.out _ _ NE.out G4.out B4.out).mono ?_); rintro e wb ⟨rfl, ⟨ns, hbk, hin⟩, hg, hj⟩; obtain ⟨a, c, rfl⟩ := hin.shape; have GB := hidden hg; have BB := hidden hbk; have NB := hidden hin; have HX2 := hidden (HX.out hj); clear hg hj hbk hin)
    | (go_at_call 85; (with_reducible refine (HS2.out _ G3.out.par).mono ?_); rintro e w4 ⟨rfl, hb⟩; have G4 := hidden (G3.out.later hb); have B4 := hidden (B3.out.below hb); clear hb)
    | (go_at_call 85; (with_reducible refine (HS1.out _ G2.out.par).mono ?_); rintro e w3 ⟨rfl, hb⟩; have G3 := hidden (G2.out.later hb); have B3 := hidden (B2.out.below hb); clear hb)
    | (go_at_call 85; (with_reducible refine (HS0.out _ G1.out.par).mono ?_); rintro e w2 ⟨rfl, hb⟩; have G2 := hidden (G1.out.later hb); have B2 := hidden (B1.out.below hb); clear hb)
    | (go_at_call 46; (with_reducible refine HA.out.mono ?_); rintro e w1 ⟨rfl, hb⟩; have NE := hidden hb.size; have hb2 := hb.trans (((Below.refl w1.heap.size w1).alloc (Nat.le_refl _) (.cells #[.int .u8 0, .string ⟨#[]⟩, .string ⟨#[]⟩, .slice none 0 0, .string ⟨#[]⟩, .int .i64 0, .int .i64 0, .string ⟨#[]⟩, .int .i64 0, .int .i64 0, .int .i64 pl] 103)).mono hb.size); have G1 := hidden (Goes.stay HPW.out hb2); have B1 : Hid (Blk 103 w1.heap.size (w1.alloc (.cells #[.int .u8 0, .string ⟨#[]⟩, .string ⟨#[]⟩, .slice none 0 0, .string ⟨#[]⟩, .int .i64 0, .int .i64 0, .string ⟨#[]⟩, .int .i64 0, .int .i64 0, .int .i64 pl] 103)) (itC_k 0 [] [] (.slice none 0 0) noPlc_k noPlc_k pl)) := blk_new _ _ _; clear hb hb2))
  exact ⟨rfl, rfl, ⟨GC.out.par, grown_of_below HB0.out GC.out.grown⟩, HX2.out.1⟩
set_option maxRecDepth 100000 in
set_option maxHeartbeats 4000000 in
theorem item_in_all (P : Nat) (v : Value) (ts : List Tok) (i : Nat) (W : World) (h : Par P v ts i W) (hE : Ended ts) (hi : i < ts.length) (hl : ts.length ≤ 2000000) (t0 : (nthT ts i).text ≠ [97, 99, 116, 111, 114]) (t1 : (nthT ts i).text ≠ [101, 100, 103, 101]) (t2 : (nthT ts i).text = [105, 110]) (x : Itm_k) (j1 j2 : Nat) (hr : inR ts i = (some x, j1)) (hs : textR ts [59] j1 = (some (), j2)) :
    Calls Tryz.prog 86 #[.pointer (some ⟨P, 0, none⟩)] W (ItemEnd P v ts W (itemR ts i)) := by
  have HM : itemR ts i = (some x, j2) := by unfold itemR bodyR; rw [if_neg t0, if_neg t1, if_pos t2, hr, then_some, hs, then_some]
  rw [HM]
  show Calls _ _ _ _ (fun e w' => (∃ a c, e = .returned (.agg (itC_k x.kind x.name x.tag (.slice a x.nums.length c) x.frm x.to x.place)) ∧ Ints_k W.heap.size w' (.slice a x.nums.length c) x.nums) ∧ Goes P v ts j2 W w' ∧ j2 < ts.length)
  clear HM
  have hb0 := (Below.refl W.heap.size W).alloc (Nat.le_refl _) (.cells #[.int .u8 0, .string ⟨#[]⟩, .string ⟨#[]⟩, .slice none 0 0, .string ⟨#[]⟩, .int .i64 0, .int .i64 0, .string ⟨#[]⟩, .int .i64 0, .int .i64 0, .int .i64 0] 103)
  have HBK : Hid (v.ownBlock ≠ some W.heap.size ∧ P ≠ W.heap.size) := h.blk (Nat.le_refl _)
  have HB0 := hidden hb0
  have hR0 := blk_new 103 W #[.int .u8 0, .string ⟨#[]⟩, .string ⟨#[]⟩, .slice none 0 0, .string ⟨#[]⟩, .int .i64 0, .int .i64 0, .string ⟨#[]⟩, .int .i64 0, .int .i64 0, .int .i64 0]
  have hP1 := h.below hb0
  have hWs : (W.alloc (.cells #[.int .u8 0, .string ⟨#[]⟩, .string ⟨#[]⟩, .slice none 0 0, .string ⟨#[]⟩, .int .i64 0, .int .i64 0, .string ⟨#[]⟩, .int .i64 0, .int .i64 0, .int .i64 0] 103)).heap.size = W.heap.size + 1 := by simp
  have ff := tok_f3
  obtain ⟨W0, hW0⟩ : ∃ W0, W0 = W.alloc (.cells #[.int .u8 0, .string ⟨#[]⟩, .string ⟨#[]⟩, .slice none 0 0, .string ⟨#[]⟩, .int .i64 0, .int .i64 0, .string ⟨#[]⟩, .int .i64 0, .int .i64 0, .int .i64 0] 103) := ⟨_, rfl⟩
  rw [← hW0] at hb0 hR0 hP1 hWs HB0
  have HR0 := hidden hR0
  have HA := hidden (ahead_at P v ts i W0 hP1 hi hl)
  have HPW := hidden hP1
  have HBW : Hid (∀ {n : Nat}, W0.heap.size ≤ n → v.ownBlock ≠ some n ∧ P ≠ n) := fun hn => hP1.blk hn
  have HC : Hid (∀ I w1, W0.heap.size ≤ I → Goes P v ts i W0 w1 → Blk 103 I w1 (itC_k 0 [] [] (.slice none 0 0) noPlc_k noPlc_k (nthT ts i).place) → Calls Tryz.prog 140 #[.pointer (some ⟨P, 0, none⟩), .pointer (some ⟨I, 0, none⟩)] w1 fun e w' => e = .returned (.tuple #[]) ∧ (∃ ns, Blk 103 I w' (itC_k x.kind x.name x.tag ns x.frm x.to x.place) ∧ Ints_k W0.heap.size w' ns x.nums) ∧ Goes P v ts j1 W0 w' ∧ j1 < ts.length) := fun I w1 q1 q2 q3 => by
    have := inB_any P v ts i W0 w1 I _ rfl q2 (fun hn => hP1.blk hn) q1 q3 hE hi hl t2
    rw [hr] at this
    exact this
  have HS0 : Hid (∀ w1, Par P v ts i w1 → Calls Tryz.prog 85 #[.pointer (some ⟨P, 0, none⟩), .string ⟨#[97, 99, 116, 111, 114]⟩] w1 fun e w' => e = .returned (.bool false) ∧ Below w1.heap.size w1 w') := fun w1 q => by
    have := says_at P v ts i w1 q hi hl [97, 99, 116, 111, 114]
    rw [decide_eq_false t0] at this
    exact this
  have HS1 : Hid (∀ w1, Par P v ts i w1 → Calls Tryz.prog 85 #[.pointer (some ⟨P, 0, none⟩), .string ⟨#[101, 100, 103, 101]⟩] w1 fun e w' => e = .returned (.bool false) ∧ Below w1.heap.size w1 w') := fun w1 q => by
    have := says_at P v ts i w1 q hi hl [101, 100, 103, 101]
    rw [decide_eq_false t1] at this
    exact this
  have HS2 : Hid (∀ w1, Par P v ts i w1 → Calls Tryz.prog 85 #[.pointer (some ⟨P, 0, none⟩), .string ⟨#[105, 110]⟩] w1 fun e w' => e = .returned (.bool true) ∧ Below w1.heap.size w1 w') := fun w1 q => by
    have := says_at P v ts i w1 q hi hl [105, 110]
    rw [decide_eq_true t2] at this
    exact this
  have HX : Hid (j1 < ts.length → j2 < ts.length ∧ ∀ w1, Par P v ts j1 w1 → Calls Tryz.prog 83 #[.pointer (some ⟨P, 0, none⟩), .string ⟨#[59]⟩] w1 fun e w' => e = .returned (.tuple #[]) ∧ Goes P v ts j2 w1 w') := fun hj1 => ⟨(expect_some hs hE hj1 hl (by decide) P v).1, (expect_some hs hE hj1 hl (by decide) P v).2⟩
  have HWL : Hid (W.heap.size < W0.heap.size) := by show _ < _; rw [hWs]; omega
  clear hWs
  clear h hb0 hR0 hP1 hr hs t0 t1 t2
  subst hW0
  unfold tokV at HA
  generalize nthT ts i = tk at *
  obtain ⟨so, tx, nm, pl⟩ := tk
  simp only at HA HC
  go_enter Tryz.func86, Tryz.ntmps86
  go_wp2_with (first
    | (go_at_call 83; (with_reducible refine (HX2.out.2 _ GB.out.par).mono ?_); rintro e wc ⟨rfl, hg⟩; have GC := hidden (GB.out.trans hg); have BC := BB.out.grown hg.grown (fun e => (HBW.out NE.out).2 (Option.some.inj e).symm); have NC := hidden (NB.out.grown hg.grown HPW.out.lt); have RC := HR0.out.grown GC.out.grown (fun e => HBK.out.2 (Option.some.inj e).symm); have c0 : wc.cell? ⟨w1.heap.size, 0, none⟩ = some (.int .u8 x.kind) := BC.cell (k := 0) rfl; have r0 : wc.cell? ⟨W.heap.size, 0, none⟩ = some (.int .u8 0) := RC.cell (k := 0) rfl; have f0 := RC.frozen 0; have c1 : wc.cell? ⟨w1.heap.size, 1, none⟩ = some (.string (str x.name)) := BC.cell (k := 1) rfl; have r1 : wc.cell? ⟨W.heap.size, 1, none⟩ = some (.string ⟨#[]⟩) := RC.cell (k := 1) rfl; have f1 := RC.frozen 1; have c2 : wc.cell? ⟨w1.heap.size, 2, none⟩ = some (.string (str x.tag)) := BC.cell (k := 2) rfl; have r2 : wc.cell? ⟨W.heap.size, 2, none⟩ = some (.string ⟨#[]⟩) := RC.cell (k := 2) rfl; have f2 := RC.frozen 2; have c3 : wc.cell? ⟨w1.heap.size, 3, none⟩ = some (.slice a x.nums.length c) := BC.cell (k := 3) rfl; have r3 : wc.cell? ⟨W.heap.size, 3, none⟩ = some (.slice none 0 0) := RC.cell (k := 3) rfl; have f3 := RC.frozen 3; have c4 : wc.cell? ⟨w1.heap.size, 4, none⟩ = some (.string (str x.frm.name)) := BC.cell (k := 4) rfl; have r4 : wc.cell? ⟨W.heap.size, 4, none⟩ = some (.string ⟨#[]⟩) := RC.cell (k := 4) rfl; have f4 := RC.frozen 4; have c5 : wc.cell? ⟨w1.heap.size, 5, none⟩ = some (.int .i64 x.frm.port) := BC.cell (k := 5) rfl; have r5 : wc.cell? ⟨W.heap.size, 5, none⟩ = some (.int .i64 0) := RC.cell (k := 5) rfl; have f5 := RC.frozen 5; have c6 : wc.cell? ⟨w1.heap.size, 6, none⟩ = some (.int .i64 x.frm.place) := BC.cell (k := 6) rfl; have r6 : wc.cell? ⟨W.heap.size, 6, none⟩ = some (.int .i64 0) := RC.cell (k := 6) rfl; have f6 := RC.frozen 6; have c7 : wc.cell? ⟨w1.heap.size, 7, none⟩ = some (.string (str x.to.name)) := BC.cell (k := 7) rfl; have r7 : wc.cell? ⟨W.heap.size, 7, none⟩ = some (.string ⟨#[]⟩) := RC.cell (k := 7) rfl; have f7 := RC.frozen 7; have c8 : wc.cell? ⟨w1.heap.size, 8, none⟩ = some (.int .i64 x.to.port) := BC.cell (k := 8) rfl; have r8 : wc.cell? ⟨W.heap.size, 8, none⟩ = some (.int .i64 0) := RC.cell (k := 8) rfl; have f8 := RC.frozen 8; have c9 : wc.cell? ⟨w1.heap.size, 9, none⟩ = some (.int .i64 x.to.place) := BC.cell (k := 9) rfl; have r9 : wc.cell? ⟨W.heap.size, 9, none⟩ = some (.int .i64 0) := RC.cell (k := 9) rfl; have f9 := RC.frozen 9; have c10 : wc.cell? ⟨w1.heap.size, 10, none⟩ = some (.int .i64 x.place) := BC.cell (k := 10) rfl; have r10 : wc.cell? ⟨W.heap.size, 10, none⟩ = some (.int .i64 0) := RC.cell (k := 10) rfl; have f10 := RC.frozen 10; clear BC RC; clear hg)
    | (go_at_call 140; (with_reducible refine (HC.out _ _ NE.out G4.out B4.out).mono ?_); rintro e wb ⟨rfl, ⟨ns, hbk, hin⟩, hg, hj⟩; obtain ⟨a, c, rfl⟩ := hin.shape; have GB := hidden hg; have BB := hidden hbk; have NB := hidden hin; have HX2 := hidden (HX.out hj); clear hg hj hbk hin)
    | (go_at_call 85; (with_reducible refine (HS2.out _ G3.out.par).mono ?_); rintro e w4 ⟨rfl, hb⟩; have G4 := hidden (G3.out.later hb); have B4 := hidden (B3.out.below hb); clear hb)
    | (go_at_call 85; (with_reducible refine (HS1.out _ G2.out.par).mono ?_); rintro e w3 ⟨rfl, hb⟩; have G3 := hidden (G2.out.later hb); have B3 := hidden (B2.out.below hb); clear hb)
    | (go_at_call 85; (with_reducible refine (HS0.out _ G1.out.par).mono ?_); rintro e w2 ⟨rfl, hb⟩; have G2 := hidden (G1.out.later hb); have B2 := hidden (B1.out.below hb); clear hb)
    | (go_at_call 46; (with_reducible refine HA.out.mono ?_); rintro e w1 ⟨rfl, hb⟩; have NE := hidden hb.size; have hb2 := hb.trans (((Below.refl w1.heap.size w1).alloc (Nat.le_refl _) (.cells #[.int .u8 0, .string ⟨#[]⟩, .string ⟨#[]⟩, .slice none 0 0, .string ⟨#[]⟩, .int .i64 0, .int .i64 0, .string ⟨#[]⟩, .int .i64 0, .int .i64 0, .int .i64 pl] 103)).mono hb.size); have G1 := hidden (Goes.stay HPW.out hb2); have B1 : Hid (Blk 103 w1.heap.size (w1.alloc (.cells #[.int .u8 0, .string ⟨#[]⟩, .string ⟨#[]⟩, .slice none 0 0, .string ⟨#[]⟩, .int .i64 0, .int .i64 0, .string ⟨#[]⟩, .int .i64 0, .int .i64 0, .int .i64 pl] 103)) (itC_k 0 [] [] (.slice none 0 0) noPlc_k noPlc_k pl)) := blk_new _ _ _; clear hb hb2))
  exact bodyPost_ret (v := .agg (itC_k x.kind x.name x.tag (.slice a x.nums.length c) x.frm x.to x.place)) (by simp [results, Tryz.results86, go_sem, r0, r1, r2, r3, r4, r5, r6, r7, r8, r9, r10, itC_k]) rfl ⟨⟨a, c, rfl, ((((((((((((NC.out.put HWL.out).put HWL.out).put HWL.out).put HWL.out).put HWL.out).put HWL.out).put HWL.out).put HWL.out).put HWL.out).put HWL.out).put HWL.out)).mono (Nat.le_of_lt HWL.out)⟩, ((((((((((((show Goes P v ts j2 W wc from ⟨GC.out.par, grown_of_below HB0.out GC.out.grown⟩).put HBK.out (Nat.le_refl _) _).put HBK.out (Nat.le_refl _) _).put HBK.out (Nat.le_refl _) _).put HBK.out (Nat.le_refl _) _).put HBK.out (Nat.le_refl _) _).put HBK.out (Nat.le_refl _) _).put HBK.out (Nat.le_refl _) _).put HBK.out (Nat.le_refl _) _).put HBK.out (Nat.le_refl _) _).put HBK.out (Nat.le_refl _) _).put HBK.out (Nat.le_refl _) _), HX2.out.1⟩
set_option maxRecDepth 100000 in
set_option maxHeartbeats 4000000 in
theorem item_out_body (P : Nat) (v : Value) (ts : List Tok) (i : Nat) (W : World) (h : Par P v ts i W) (hE : Ended ts) (hi : i < ts.length) (hl : ts.length ≤ 2000000) (t0 : (nthT ts i).text ≠ [97, 99, 116, 111, 114]) (t1 : (nthT ts i).text ≠ [101, 100, 103, 101]) (t2 : (nthT ts i).text ≠ [105, 110]) (j1 : Nat) (hr : outR ts i = (none, j1)) :
    Calls Tryz.prog 86 #[.pointer (some ⟨P, 0, none⟩)] W (ItemEnd P v ts W (itemR ts i)) := by
  have HM : itemR ts i = (none, j1) := by unfold itemR bodyR; rw [if_neg t0, if_neg t1, if_neg t2, hr, then_none]
  rw [HM]
  show Calls _ _ _ _ (fun e w' => e = .panicked tokPanic ∧ Goes P v ts j1 W w' ∧ j1 < ts.length)
  clear HM
  have hb0 := (Below.refl W.heap.size W).alloc (Nat.le_refl _) (.cells #[.int .u8 0, .string ⟨#[]⟩, .string ⟨#[]⟩, .slice none 0 0, .string ⟨#[]⟩, .int .i64 0, .int .i64 0, .string ⟨#[]⟩, .int .i64 0, .int .i64 0, .int .i64 0] 103)
  have HBK : Hid (v.ownBlock ≠ some W.heap.size ∧ P ≠ W.heap.size) := h.blk (Nat.le_refl _)
  have HB0 := hidden hb0
  have hR0 := blk_new 103 W #[.int .u8 0, .string ⟨#[]⟩, .string ⟨#[]⟩, .slice none 0 0, .string ⟨#[]⟩, .int .i64 0, .int .i64 0, .string ⟨#[]⟩, .int .i64 0, .int .i64 0, .int .i64 0]
  have hP1 := h.below hb0
  have hWs : (W.alloc (.cells #[.int .u8 0, .string ⟨#[]⟩, .string ⟨#[]⟩, .slice none 0 0, .string ⟨#[]⟩, .int .i64 0, .int .i64 0, .string ⟨#[]⟩, .int .i64 0, .int .i64 0, .int .i64 0] 103)).heap.size = W.heap.size + 1 := by simp
  have ff := tok_f3
  obtain ⟨W0, hW0⟩ : ∃ W0, W0 = W.alloc (.cells #[.int .u8 0, .string ⟨#[]⟩, .string ⟨#[]⟩, .slice none 0 0, .string ⟨#[]⟩, .int .i64 0, .int .i64 0, .string ⟨#[]⟩, .int .i64 0, .int .i64 0, .int .i64 0] 103) := ⟨_, rfl⟩
  rw [← hW0] at hb0 hR0 hP1 hWs HB0
  have HR0 := hidden hR0
  have HA := hidden (ahead_at P v ts i W0 hP1 hi hl)
  have HPW := hidden hP1
  have HBW : Hid (∀ {n : Nat}, W0.heap.size ≤ n → v.ownBlock ≠ some n ∧ P ≠ n) := fun hn => hP1.blk hn
  have HC : Hid (∀ I w1, W0.heap.size ≤ I → Goes P v ts i W0 w1 → Blk 103 I w1 (itC_k 0 [] [] (.slice none 0 0) noPlc_k noPlc_k (nthT ts i).place) → Calls Tryz.prog 141 #[.pointer (some ⟨P, 0, none⟩), .pointer (some ⟨I, 0, none⟩)] w1 fun e w' => e = .panicked tokPanic ∧ Goes P v ts j1 W0 w' ∧ j1 < ts.length) := fun I w1 q1 q2 q3 => by
    have := out_any P v ts i W0 w1 I _ rfl q2 (fun hn => hP1.blk hn) q1 q3 hE hi hl
    rw [hr] at this
    exact this
  have HS0 : Hid (∀ w1, Par P v ts i w1 → Calls Tryz.prog 85 #[.pointer (some ⟨P, 0, none⟩), .string ⟨#[97, 99, 116, 111, 114]⟩] w1 fun e w' => e = .returned (.bool false) ∧ Below w1.heap.size w1 w') := fun w1 q => by
    have := says_at P v ts i w1 q hi hl [97, 99, 116, 111, 114]
    rw [decide_eq_false t0] at this
    exact this
  have HS1 : Hid (∀ w1, Par P v ts i w1 → Calls Tryz.prog 85 #[.pointer (some ⟨P, 0, none⟩), .string ⟨#[101, 100, 103, 101]⟩] w1 fun e w' => e = .returned (.bool false) ∧ Below w1.heap.size w1 w') := fun w1 q => by
    have := says_at P v ts i w1 q hi hl [101, 100, 103, 101]
    rw [decide_eq_false t1] at this
    exact this
  have HS2 : Hid (∀ w1, Par P v ts i w1 → Calls Tryz.prog 85 #[.pointer (some ⟨P, 0, none⟩), .string ⟨#[105, 110]⟩] w1 fun e w' => e = .returned (.bool false) ∧ Below w1.heap.size w1 w') := fun w1 q => by
    have := says_at P v ts i w1 q hi hl [105, 110]
    rw [decide_eq_false t2] at this
    exact this
  have HWL : Hid (W.heap.size < W0.heap.size) := by show _ < _; rw [hWs]; omega
  clear hWs
  clear h hb0 hR0 hP1 hr t0 t1 t2
  subst hW0
  unfold tokV at HA
  generalize nthT ts i = tk at *
  obtain ⟨so, tx, nm, pl⟩ := tk
  simp only at HA HC
  go_enter Tryz.func86, Tryz.ntmps86
  go_wp2_with (first
    | (go_at_call 141; (with_reducible refine (HC.out _ _ NE.out G4.out B4.out).mono ?_); rintro e wb ⟨rfl, hg, hj⟩; have GB := hidden hg; have HJ := hidden hj; clear hg hj)
    | (go_at_call 85; (with_reducible refine (HS2.out _ G3.out.par).mono ?_); rintro e w4 ⟨rfl, hb⟩; have G4 := hidden (G3.out.later hb); have B4 := hidden (B3.out.below hb); clear hb)
    | (go_at_call 85; (with_reducible refine (HS1.out _ G2.out.par).mono ?_); rintro e w3 ⟨rfl, hb⟩; have G3 := hidden (G2.out.later hb); have B3 := hidden (B2.out.below hb); clear hb)
    | (go_at_call 85; (with_reducible refine (HS0.out _ G1.out.par).mono ?_); rintro e w2 ⟨rfl, hb⟩; have G2 := hidden (G1.out.later hb); have B2 := hidden (B1.out.below hb); clear hb)
    | (go_at_call 46; (with_reducible refine HA.out.mono ?_); rintro e w1 ⟨rfl, hb⟩; have NE := hidden hb.size; have hb2 := hb.trans (((Below.refl w1.heap.size w1).alloc (Nat.le_refl _) (.cells #[.int .u8 0, .string ⟨#[]⟩, .string ⟨#[]⟩, .slice none 0 0, .string ⟨#[]⟩, .int .i64 0, .int .i64 0, .string ⟨#[]⟩, .int .i64 0, .int .i64 0, .int .i64 pl] 103)).mono hb.size); have G1 := hidden (Goes.stay HPW.out hb2); have B1 : Hid (Blk 103 w1.heap.size (w1.alloc (.cells #[.int .u8 0, .string ⟨#[]⟩, .string ⟨#[]⟩, .slice none 0 0, .string ⟨#[]⟩, .int .i64 0, .int .i64 0, .string ⟨#[]⟩, .int .i64 0, .int .i64 0, .int .i64 pl] 103)) (itC_k 0 [] [] (.slice none 0 0) noPlc_k noPlc_k pl)) := blk_new _ _ _; clear hb hb2))
  exact ⟨rfl, rfl, ⟨GB.out.par, grown_of_below HB0.out GB.out.grown⟩, HJ.out⟩
set_option maxRecDepth 100000 in
set_option maxHeartbeats 4000000 in
theorem item_out_semi (P : Nat) (v : Value) (ts : List Tok) (i : Nat) (W : World) (h : Par P v ts i W) (hE : Ended ts) (hi : i < ts.length) (hl : ts.length ≤ 2000000) (t0 : (nthT ts i).text ≠ [97, 99, 116, 111, 114]) (t1 : (nthT ts i).text ≠ [101, 100, 103, 101]) (t2 : (nthT ts i).text ≠ [105, 110]) (x : Itm_k) (j1 j2 : Nat) (hr : outR ts i = (some x, j1)) (hs : textR ts [59] j1 = (none, j2)) :
    Calls Tryz.prog 86 #[.pointer (some ⟨P, 0, none⟩)] W (ItemEnd P v ts W (itemR ts i)) := by
  have HM : itemR ts i = (none, j2) := by unfold itemR bodyR; rw [if_neg t0, if_neg t1, if_neg t2, hr, then_some, hs, then_none]
  rw [HM]
  show Calls _ _ _ _ (fun e w' => e = .panicked tokPanic ∧ Goes P v ts j2 W w' ∧ j2 < ts.length)
  clear HM
  have hb0 := (Below.refl W.heap.size W).alloc (Nat.le_refl _) (.cells #[.int .u8 0, .string ⟨#[]⟩, .string ⟨#[]⟩, .slice none 0 0, .string ⟨#[]⟩, .int .i64 0, .int .i64 0, .string ⟨#[]⟩, .int .i64 0, .int .i64 0, .int .i64 0] 103)
  have HBK : Hid (v.ownBlock ≠ some W.heap.size ∧ P ≠ W.heap.size) := h.blk (Nat.le_refl _)
  have HB0 := hidden hb0
  have hR0 := blk_new 103 W #[.int .u8 0, .string ⟨#[]⟩, .string ⟨#[]⟩, .slice none 0 0, .string ⟨#[]⟩, .int .i64 0, .int .i64 0, .string ⟨#[]⟩, .int .i64 0, .int .i64 0, .int .i64 0]
  have hP1 := h.below hb0
  have hWs : (W.alloc (.cells #[.int .u8 0, .string ⟨#[]⟩, .string ⟨#[]⟩, .slice none 0 0, .string ⟨#[]⟩, .int .i64 0, .int .i64 0, .string ⟨#[]⟩, .int .i64 0, .int .i64 0, .int .i64 0] 103)).heap.size = W.heap.size + 1 := by simp
  have ff := tok_f3
  obtain ⟨W0, hW0⟩ : ∃ W0, W0 = W.alloc (.cells #[.int .u8 0, .string ⟨#[]⟩, .string ⟨#[]⟩, .slice none 0 0, .string ⟨#[]⟩, .int .i64 0, .int .i64 0, .string ⟨#[]⟩, .int .i64 0, .int .i64 0, .int .i64 0] 103) := ⟨_, rfl⟩
  rw [← hW0] at hb0 hR0 hP1 hWs HB0
  have HR0 := hidden hR0
  have HA := hidden (ahead_at P v ts i W0 hP1 hi hl)
  have HPW := hidden hP1
  have HBW : Hid (∀ {n : Nat}, W0.heap.size ≤ n → v.ownBlock ≠ some n ∧ P ≠ n) := fun hn => hP1.blk hn
  have HC : Hid (∀ I w1, W0.heap.size ≤ I → Goes P v ts i W0 w1 → Blk 103 I w1 (itC_k 0 [] [] (.slice none 0 0) noPlc_k noPlc_k (nthT ts i).place) → Calls Tryz.prog 141 #[.pointer (some ⟨P, 0, none⟩), .pointer (some ⟨I, 0, none⟩)] w1 fun e w' => e = .returned (.tuple #[]) ∧ (∃ ns, Blk 103 I w' (itC_k x.kind x.name x.tag ns x.frm x.to x.place) ∧ Ints_k W0.heap.size w' ns x.nums) ∧ Goes P v ts j1 W0 w' ∧ j1 < ts.length) := fun I w1 q1 q2 q3 => by
    have := out_any P v ts i W0 w1 I _ rfl q2 (fun hn => hP1.blk hn) q1 q3 hE hi hl
    rw [hr] at this
    exact this
  have HS0 : Hid (∀ w1, Par P v ts i w1 → Calls Tryz.prog 85 #[.pointer (some ⟨P, 0, none⟩), .string ⟨#[97, 99, 116, 111, 114]⟩] w1 fun e w' => e = .returned (.bool false) ∧ Below w1.heap.size w1 w') := fun w1 q => by
    have := says_at P v ts i w1 q hi hl [97, 99, 116, 111, 114]
    rw [decide_eq_false t0] at this
    exact this
  have HS1 : Hid (∀ w1, Par P v ts i w1 → Calls Tryz.prog 85 #[.pointer (some ⟨P, 0, none⟩), .string ⟨#[101, 100, 103, 101]⟩] w1 fun e w' => e = .returned (.bool false) ∧ Below w1.heap.size w1 w') := fun w1 q => by
    have := says_at P v ts i w1 q hi hl [101, 100, 103, 101]
    rw [decide_eq_false t1] at this
    exact this
  have HS2 : Hid (∀ w1, Par P v ts i w1 → Calls Tryz.prog 85 #[.pointer (some ⟨P, 0, none⟩), .string ⟨#[105, 110]⟩] w1 fun e w' => e = .returned (.bool false) ∧ Below w1.heap.size w1 w') := fun w1 q => by
    have := says_at P v ts i w1 q hi hl [105, 110]
    rw [decide_eq_false t2] at this
    exact this
  have HX : Hid (j1 < ts.length → j2 < ts.length ∧ ∀ w1, Par P v ts j1 w1 → Calls Tryz.prog 83 #[.pointer (some ⟨P, 0, none⟩), .string ⟨#[59]⟩] w1 fun e w' => e = .panicked tokPanic ∧ Goes P v ts j2 w1 w') := fun hj1 => ⟨(expect_none hs hj1 hl P v).1, (expect_none hs hj1 hl P v).2⟩
  have HWL : Hid (W.heap.size < W0.heap.size) := by show _ < _; rw [hWs]; omega
  clear hWs
  clear h hb0 hR0 hP1 hr hs t0 t1 t2
  subst hW0
  unfold tokV at HA
  generalize nthT ts i = tk at *
  obtain ⟨so, tx, nm, pl⟩ := tk
  simp only at HA HC
  go_enter Tryz.func86, Tryz.ntmps86
  go_wp2_with (first
    | (go_at_call 83; (with_reducible refine (HX2.out.2 _ GB.out.par).mono ?_); rintro e wc ⟨rfl, hg⟩; have GC := hidden (GB.out.trans hg); clear hg)
    | (go_at_call 141; (with_reducible refine (HC.out _ _ NE.out G4.out B4.out).mono ?_); rintro e wb ⟨rfl, ⟨ns, hbk, hin⟩, hg, hj⟩; obtain ⟨a, c, rfl⟩ := hin.shape; have GB := hidden hg; have BB := hidden hbk; have NB := hidden hin; have HX2 := hidden (HX.out hj); clear hg hj hbk hin)
    | (go_at_call 85; (with_reducible refine (HS2.out _ G3.out.par).mono ?_); rintro e w4 ⟨rfl, hb⟩; have G4 := hidden (G3.out.later hb); have B4 := hidden (B3.out.below hb); clear hb)
    | (go_at_call 85; (with_reducible refine (HS1.out _ G2.out.par).mono ?_); rintro e w3 ⟨rfl, hb⟩; have G3 := hidden (G2.out.later hb); have B3 := hidden (B2.out.below hb); clear hb)
    | (go_at_call 85; (with_reducible refine (HS0.out _ G1.out.par).mono ?_); rintro e w2 ⟨rfl, hb⟩; have G2 := hidden (G1.out.later hb); have B2 := hidden (B1.out.below hb); clear hb)
    | (go_at_call 46; (with_reducible refine HA.out.mono ?_); rintro e w1 ⟨rfl, hb⟩; have NE := hidden hb.size; have hb2 := hb.trans (((Below.refl w1.heap.size w1).alloc (Nat.le_refl _) (.cells #[.int .u8 0, .string ⟨#[]⟩, .string ⟨#[]⟩, .slice none 0 0, .string ⟨#[]⟩, .int .i64 0, .int .i64 0, .string ⟨#[]⟩, .int .i64 0, .int .i64 0, .int .i64 pl] 103)).mono hb.size); have G1 := hidden (Goes.stay HPW.out hb2); have B1 : Hid (Blk 103 w1.heap.size (w1.alloc (.cells #[.int .u8 0, .string ⟨#[]⟩, .string ⟨#[]⟩, .slice none 0 0, .string ⟨#[]⟩, .int .i64 0, .int .i64 0, .string ⟨#[]⟩, .int .i64 0, .int .i64 0, .int .i64 pl] 103)) (itC_k 0 [] [] (.slice none 0 0) noPlc_k noPlc_k pl)) := blk_new _ _ _; clear hb hb2))
  exact ⟨rfl, rfl, ⟨GC.out.par, grown_of_below HB0.out GC.out.grown⟩, HX2.out.1⟩
set_option maxRecDepth 100000 in
set_option maxHeartbeats 4000000 in
theorem item_out_all (P : Nat) (v : Value) (ts : List Tok) (i : Nat) (W : World) (h : Par P v ts i W) (hE : Ended ts) (hi : i < ts.length) (hl : ts.length ≤ 2000000) (t0 : (nthT ts i).text ≠ [97, 99, 116, 111, 114]) (t1 : (nthT ts i).text ≠ [101, 100, 103, 101]) (t2 : (nthT ts i).text ≠ [105, 110]) (x : Itm_k) (j1 j2 : Nat) (hr : outR ts i = (some x, j1)) (hs : textR ts [59] j1 = (some (), j2)) :
    Calls Tryz.prog 86 #[.pointer (some ⟨P, 0, none⟩)] W (ItemEnd P v ts W (itemR ts i)) := by
  have HM : itemR ts i = (some x, j2) := by unfold itemR bodyR; rw [if_neg t0, if_neg t1, if_neg t2, hr, then_some, hs, then_some]
  rw [HM]
  show Calls _ _ _ _ (fun e w' => (∃ a c, e = .returned (.agg (itC_k x.kind x.name x.tag (.slice a x.nums.length c) x.frm x.to x.place)) ∧ Ints_k W.heap.size w' (.slice a x.nums.length c) x.nums) ∧ Goes P v ts j2 W w' ∧ j2 < ts.length)
  clear HM
  have hb0 := (Below.refl W.heap.size W).alloc (Nat.le_refl _) (.cells #[.int .u8 0, .string ⟨#[]⟩, .string ⟨#[]⟩, .slice none 0 0, .string ⟨#[]⟩, .int .i64 0, .int .i64 0, .string ⟨#[]⟩, .int .i64 0, .int .i64 0, .int .i64 0] 103)
  have HBK : Hid (v.ownBlock ≠ some W.heap.size ∧ P ≠ W.heap.size) := h.blk (Nat.le_refl _)
  have HB0 := hidden hb0
  have hR0 := blk_new 103 W #[.int .u8 0, .string ⟨#[]⟩, .string ⟨#[]⟩, .slice none 0 0, .string ⟨#[]⟩, .int .i64 0, .int .i64 0, .string ⟨#[]⟩, .int .i64 0, .int .i64 0, .int .i64 0]
  have hP1 := h.below hb0
  have hWs : (W.alloc (.cells #[.int .u8 0, .string ⟨#[]⟩, .string ⟨#[]⟩, .slice none 0 0, .string ⟨#[]⟩, .int .i64 0, .int .i64 0, .string ⟨#[]⟩, .int .i64 0, .int .i64 0, .int .i64 0] 103)).heap.size = W.heap.size + 1 := by simp
  have ff := tok_f3
  obtain ⟨W0, hW0⟩ : ∃ W0, W0 = W.alloc (.cells #[.int .u8 0, .string ⟨#[]⟩, .string ⟨#[]⟩, .slice none 0 0, .string ⟨#[]⟩, .int .i64 0, .int .i64 0, .string ⟨#[]⟩, .int .i64 0, .int .i64 0, .int .i64 0] 103) := ⟨_, rfl⟩
  rw [← hW0] at hb0 hR0 hP1 hWs HB0
  have HR0 := hidden hR0
  have HA := hidden (ahead_at P v ts i W0 hP1 hi hl)
  have HPW := hidden hP1
  have HBW : Hid (∀ {n : Nat}, W0.heap.size ≤ n → v.ownBlock ≠ some n ∧ P ≠ n) := fun hn => hP1.blk hn
  have HC : Hid (∀ I w1, W0.heap.size ≤ I → Goes P v ts i W0 w1 → Blk 103 I w1 (itC_k 0 [] [] (.slice none 0 0) noPlc_k noPlc_k (nthT ts i).place) → Calls Tryz.prog 141 #[.pointer (some ⟨P, 0, none⟩), .pointer (some ⟨I, 0, none⟩)] w1 fun e w' => e = .returned (.tuple #[]) ∧ (∃ ns, Blk 103 I w' (itC_k x.kind x.name x.tag ns x.frm x.to x.place) ∧ Ints_k W0.heap.size w' ns x.nums) ∧ Goes P v ts j1 W0 w' ∧ j1 < ts.length) := fun I w1 q1 q2 q3 => by
    have := out_any P v ts i W0 w1 I _ rfl q2 (fun hn => hP1.blk hn) q1 q3 hE hi hl
    rw [hr] at this
    exact this
  have HS0 : Hid (∀ w1, Par P v ts i w1 → Calls Tryz.prog 85 #[.pointer (some ⟨P, 0, none⟩), .string ⟨#[97, 99, 116, 111, 114]⟩] w1 fun e w' => e = .returned (.bool false) ∧ Below w1.heap.size w1 w') := fun w1 q => by
    have := says_at P v ts i w1 q hi hl [97, 99, 116, 111, 114]
    rw [decide_eq_false t0] at this
    exact this
  have HS1 : Hid (∀ w1, Par P v ts i w1 → Calls Tryz.prog 85 #[.pointer (some ⟨P, 0, none⟩), .string ⟨#[101, 100, 103, 101]⟩] w1 fun e w' => e = .returned (.bool false) ∧ Below w1.heap.size w1 w') := fun w1 q => by
    have := says_at P v ts i w1 q hi hl [101, 100, 103, 101]
    rw [decide_eq_false t1] at this
    exact this
  have HS2 : Hid (∀ w1, Par P v ts i w1 → Calls Tryz.prog 85 #[.pointer (some ⟨P, 0, none⟩), .string ⟨#[105, 110]⟩] w1 fun e w' => e = .returned (.bool false) ∧ Below w1.heap.size w1 w') := fun w1 q => by
    have := says_at P v ts i w1 q hi hl [105, 110]
    rw [decide_eq_false t2] at this
    exact this
  have HX : Hid (j1 < ts.length → j2 < ts.length ∧ ∀ w1, Par P v ts j1 w1 → Calls Tryz.prog 83 #[.pointer (some ⟨P, 0, none⟩), .string ⟨#[59]⟩] w1 fun e w' => e = .returned (.tuple #[]) ∧ Goes P v ts j2 w1 w') := fun hj1 => ⟨(expect_some hs hE hj1 hl (by decide) P v).1, (expect_some hs hE hj1 hl (by decide) P v).2⟩
  have HWL : Hid (W.heap.size < W0.heap.size) := by show _ < _; rw [hWs]; omega
  clear hWs
  clear h hb0 hR0 hP1 hr hs t0 t1 t2
  subst hW0
  unfold tokV at HA
  generalize nthT ts i = tk at *
  obtain ⟨so, tx, nm, pl⟩ := tk
  simp only at HA HC
  go_enter Tryz.func86, Tryz.ntmps86
  go_wp2_with (first
    | (go_at_call 83; (with_reducible refine (HX2.out.2 _ GB.out.par).mono ?_); rintro e wc ⟨rfl, hg⟩; have GC := hidden (GB.out.trans hg); have BC := BB.out.grown hg.grown (fun e => (HBW.out NE.out).2 (Option.some.inj e).symm); have NC := hidden (NB.out.grown hg.grown HPW.out.lt); have RC := HR0.out.grown GC.out.grown (fun e => HBK.out.2 (Option.some.inj e).symm); have c0 : wc.cell? ⟨w1.heap.size, 0, none⟩ = some (.int .u8 x.kind) := BC.cell (k := 0) rfl; have r0 : wc.cell? ⟨W.heap.size, 0, none⟩ = some (.int .u8 0) := RC.cell (k := 0) rfl; have f0 := RC.frozen 0; have c1 : wc.cell? ⟨w1.heap.size, 1, none⟩ = some (.string (str x.name)) := BC.cell (k := 1) rfl; have r1 : wc.cell? ⟨W.heap.size, 1, none⟩ = some (.string ⟨#[]⟩) := RC.cell (k := 1) rfl; have f1 := RC.frozen 1; have c2 : wc.cell? ⟨w1.heap.size, 2, none⟩ = some (.string (str x.tag)) := BC.cell (k := 2) rfl; have r2 : wc.cell? ⟨W.heap.size, 2, none⟩ = some (.string ⟨#[]⟩) := RC.cell (k := 2) rfl; have f2 := RC.frozen 2; have c3 : wc.cell? ⟨w1.heap.size, 3, none⟩ = some (.slice a x.nums.length c) := BC.cell (k := 3) rfl; have r3 : wc.cell? ⟨W.heap.size, 3, none⟩ = some (.slice none 0 0) := RC.cell (k := 3) rfl; have f3 := RC.frozen 3; have c4 : wc.cell? ⟨w1.heap.size, 4, none⟩ = some (.string (str x.frm.name)) := BC.cell (k := 4) rfl; have r4 : wc.cell? ⟨W.heap.size, 4, none⟩ = some (.string ⟨#[]⟩) := RC.cell (k := 4) rfl; have f4 := RC.frozen 4; have c5 : wc.cell? ⟨w1.heap.size, 5, none⟩ = some (.int .i64 x.frm.port) := BC.cell (k := 5) rfl; have r5 : wc.cell? ⟨W.heap.size, 5, none⟩ = some (.int .i64 0) := RC.cell (k := 5) rfl; have f5 := RC.frozen 5; have c6 : wc.cell? ⟨w1.heap.size, 6, none⟩ = some (.int .i64 x.frm.place) := BC.cell (k := 6) rfl; have r6 : wc.cell? ⟨W.heap.size, 6, none⟩ = some (.int .i64 0) := RC.cell (k := 6) rfl; have f6 := RC.frozen 6; have c7 : wc.cell? ⟨w1.heap.size, 7, none⟩ = some (.string (str x.to.name)) := BC.cell (k := 7) rfl; have r7 : wc.cell? ⟨W.heap.size, 7, none⟩ = some (.string ⟨#[]⟩) := RC.cell (k := 7) rfl; have f7 := RC.frozen 7; have c8 : wc.cell? ⟨w1.heap.size, 8, none⟩ = some (.int .i64 x.to.port) := BC.cell (k := 8) rfl; have r8 : wc.cell? ⟨W.heap.size, 8, none⟩ = some (.int .i64 0) := RC.cell (k := 8) rfl; have f8 := RC.frozen 8; have c9 : wc.cell? ⟨w1.heap.size, 9, none⟩ = some (.int .i64 x.to.place) := BC.cell (k := 9) rfl; have r9 : wc.cell? ⟨W.heap.size, 9, none⟩ = some (.int .i64 0) := RC.cell (k := 9) rfl; have f9 := RC.frozen 9; have c10 : wc.cell? ⟨w1.heap.size, 10, none⟩ = some (.int .i64 x.place) := BC.cell (k := 10) rfl; have r10 : wc.cell? ⟨W.heap.size, 10, none⟩ = some (.int .i64 0) := RC.cell (k := 10) rfl; have f10 := RC.frozen 10; clear BC RC; clear hg)
    | (go_at_call 141; (with_reducible refine (HC.out _ _ NE.out G4.out B4.out).mono ?_); rintro e wb ⟨rfl, ⟨ns, hbk, hin⟩, hg, hj⟩; obtain ⟨a, c, rfl⟩ := hin.shape; have GB := hidden hg; have BB := hidden hbk; have NB := hidden hin; have HX2 := hidden (HX.out hj); clear hg hj hbk hin)
    | (go_at_call 85; (with_reducible refine (HS2.out _ G3.out.par).mono ?_); rintro e w4 ⟨rfl, hb⟩; have G4 := hidden (G3.out.later hb); have B4 := hidden (B3.out.below hb); clear hb)
    | (go_at_call 85; (with_reducible refine (HS1.out _ G2.out.par).mono ?_); rintro e w3 ⟨rfl, hb⟩; have G3 := hidden (G2.out.later hb); have B3 := hidden (B2.out.below hb); clear hb)
    | (go_at_call 85; (with_reducible refine (HS0.out _ G1.out.par).mono ?_); rintro e w2 ⟨rfl, hb⟩; have G2 := hidden (G1.out.later hb); have B2 := hidden (B1.out.below hb); clear hb)
    | (go_at_call 46; (with_reducible refine HA.out.mono ?_); rintro e w1 ⟨rfl, hb⟩; have NE := hidden hb.size; have hb2 := hb.trans (((Below.refl w1.heap.size w1).alloc (Nat.le_refl _) (.cells #[.int .u8 0, .string ⟨#[]⟩, .string ⟨#[]⟩, .slice none 0 0, .string ⟨#[]⟩, .int .i64 0, .int .i64 0, .string ⟨#[]⟩, .int .i64 0, .int .i64 0, .int .i64 pl] 103)).mono hb.size); have G1 := hidden (Goes.stay HPW.out hb2); have B1 : Hid (Blk 103 w1.heap.size (w1.alloc (.cells #[.int .u8 0, .string ⟨#[]⟩, .string ⟨#[]⟩, .slice none 0 0, .string ⟨#[]⟩, .int .i64 0, .int .i64 0, .string ⟨#[]⟩, .int .i64 0, .int .i64 0, .int .i64 pl] 103)) (itC_k 0 [] [] (.slice none 0 0) noPlc_k noPlc_k pl)) := blk_new _ _ _; clear hb hb2))
  exact bodyPost_ret (v := .agg (itC_k x.kind x.name x.tag (.slice a x.nums.length c) x.frm x.to x.place)) (by simp [results, Tryz.results86, go_sem, r0, r1, r2, r3, r4, r5, r6, r7, r8, r9, r10, itC_k]) rfl ⟨⟨a, c, rfl, ((((((((((((NC.out.put HWL.out).put HWL.out).put HWL.out).put HWL.out).put HWL.out).put HWL.out).put HWL.out).put HWL.out).put HWL.out).put HWL.out).put HWL.out)).mono (Nat.le_of_lt HWL.out)⟩, ((((((((((((show Goes P v ts j2 W wc from ⟨GC.out.par, grown_of_below HB0.out GC.out.grown⟩).put HBK.out (Nat.le_refl _) _).put HBK.out (Nat.le_refl _) _).put HBK.out (Nat.le_refl _) _).put HBK.out (Nat.le_refl _) _).put HBK.out (Nat.le_refl _) _).put HBK.out (Nat.le_refl _) _).put HBK.out (Nat.le_refl _) _).put HBK.out (Nat.le_refl _) _).put HBK.out (Nat.le_refl _) _).put HBK.out (Nat.le_refl _) _).put HBK.out (Nat.le_refl _) _), HX2.out.1⟩
end Go.Proofs.YtolpelfdhcccnaaGreatDoor
