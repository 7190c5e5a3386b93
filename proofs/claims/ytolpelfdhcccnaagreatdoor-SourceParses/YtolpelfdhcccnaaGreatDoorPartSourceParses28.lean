/- Texts of one chain, laid one behind the other. -/
import Derived.Test.YtolpelfdhcccnaaGreatDoorPartSourceParses27
import Derived.Test.YtolpelfdhcccnaaGreatDoorPartSourceParses21
import Derived.Test.YtolpelfdhcccnaaGreatDoorPartSourceParses25
import Derived.Deep.Cut
namespace Go.Proofs.YtolpelfdhcccnaaGreatDoor
open Go.ChangeShapes Go.WideShapes Go.ChangeAt Go.RowKit
theorem ritem_det (P : Nat) (v : Value) (ts : List Tok) (q : Nat) (W : World) (h : Rdr P v ts q true W) (hi : q < ts.length) (hl : ts.length ≤ 2000000) (hF : Fine ts) (hE : Ended ts) :
    Calls Tryz.prog 57 #[.pointer (some ⟨P, 0, none⟩)] W fun e w' => ∃ (x : Itm_k) (a : Option Addr) (c : Nat), (∀ x0, (itemR ts q).1 = some x0 → x = x0) ∧ e = .returned (.agg (itC_k x.kind x.name x.tag (.slice a x.nums.length c) x.frm x.to x.place)) ∧ Ints_k W.heap.size w' (.slice a x.nums.length c) x.nums ∧ RGo P v ts (itemR ts q).2 (itemR ts q).1.isSome W w' := by
  refine (ritem_any P v ts q W h hi hl hF hE).mono ?_
  rintro e w' ⟨x, a, c, b', q', h1, h2, h3, h4, -⟩
  rcases h3 with ⟨-, rfl, e2⟩ | ⟨-, rfl, e2⟩ | ⟨h0, -, -⟩
  · rw [e2]
    exact ⟨x, a, c, fun x0 hx => Option.some.inj hx, h1, h2, h4⟩
  · rw [e2]
    exact ⟨x, a, c, fun x0 hx => (by cases hx), h1, h2, h4⟩
  · cases h0
theorem sketch_follows {ts : List Tok} {nam : List UInt8} {xs : List Itm_k} {b1 b2 b3 b4 b5 : Bool} {j1 j2 j3 j4 j5 : Nat} (h1 : Follows true 0 (textR ts [103, 114, 97, 112, 104]) () b1 j1) (h2 : Follows b1 j1 (nameR ts) nam b2 j2) (h3 : Follows b2 j2 (textR ts [123]) () b3 j3) (h4 : Follows b3 j3 (itemsF ts.length ts) xs b4 j4) (h5 : Follows b4 j4 (textR ts [125]) () b5 j5) :
    (b5 = true → sketchR ts = if (nthT ts j5).sort = 0 then (some ⟨nam, xs⟩, j5 + 1) else (none, j5)) ∧ (b5 = false → sketchR ts = (none, j5)) := by
  have key : ∀ b6 j6, Follows b5 j5 (fun i => if (nthT ts i).sort = 0 then (some (⟨nam, xs⟩ : Skt_k), i + 1) else (none, i)) ⟨nam, xs⟩ b6 j6 → Follows true 0 (fun _ => sketchR ts) ⟨nam, xs⟩ b6 j6 := fun b6 j6 h6 =>
    (h1.next (g := fun _ i => andThen (nameR ts i) fun n i => andThen (textR ts [123] i) fun _ i => andThen (itemsF ts.length ts i) fun xs i => andThen (textR ts [125] i) fun _ i => if (nthT ts i).sort = 0 then (some (⟨n, xs⟩ : Skt_k), i + 1) else (none, i)) (h2.next (g := fun n i => andThen (textR ts [123] i) fun _ i => andThen (itemsF ts.length ts i) fun xs i => andThen (textR ts [125] i) fun _ i => if (nthT ts i).sort = 0 then (some (⟨n, xs⟩ : Skt_k), i + 1) else (none, i)) (h3.next (g := fun _ i => andThen (itemsF ts.length ts i) fun xs i => andThen (textR ts [125] i) fun _ i => if (nthT ts i).sort = 0 then (some (⟨nam, xs⟩ : Skt_k), i + 1) else (none, i)) (h4.next (g := fun xs i => andThen (textR ts [125] i) fun _ i => if (nthT ts i).sort = 0 then (some (⟨nam, xs⟩ : Skt_k), i + 1) else (none, i)) (h5.next (g := fun _ i => if (nthT ts i).sort = 0 then (some (⟨nam, xs⟩ : Skt_k), i + 1) else (none, i)) h6))))).of rfl
  refine ⟨fun e => ?_, fun e => ?_⟩
  · subst e
    by_cases hs : (nthT ts j5).sort = 0
    · rw [if_pos hs]
      rcases key true (j5 + 1) (Or.inl ⟨rfl, rfl, by show (if _ then _ else _) = _; rw [if_pos hs]⟩) with ⟨-, -, e⟩ | ⟨-, h, -⟩ | ⟨h, -, -⟩
      · exact e
      · cases h
      · cases h
    · rw [if_neg hs]
      rcases key false j5 (Or.inr (Or.inl ⟨rfl, rfl, by show (if _ then _ else _) = _; rw [if_neg hs]⟩)) with ⟨-, h, -⟩ | ⟨-, -, e⟩ | ⟨h, -, -⟩
      · cases h
      · exact e
      · cases h
  · subst e
    rcases key false j5 (Or.inr (Or.inr ⟨rfl, rfl, rfl⟩)) with ⟨-, h, -⟩ | ⟨-, -, e⟩ | ⟨h, -, -⟩
    · cases h
    · exact e
    · cases h
/-- How far the items are read. -/
structure Far (ts : List Tok) (b3 : Bool) (j3 : Nat) (f : Nat) (L : List (Itm_k × Value)) (ok : Bool) (j : Nat) : Prop where
  on : ok = true → b3 = true ∧ j3 + L.length ≤ j ∧ prep (L.map Prod.fst) (itemsF f ts j) = itemsF ts.length ts j3
  off : ok = false → ∀ xs, Follows b3 j3 (itemsF ts.length ts) xs false j
theorem far_start (ts : List Tok) (b3 : Bool) (j3 : Nat) : Far ts b3 j3 ts.length [] b3 j3 :=
  ⟨fun e => ⟨e, Nat.le_refl _, by rw [List.map_nil, prep_nil]⟩, fun e xs => by subst e; exact Or.inr (Or.inr ⟨rfl, rfl, rfl⟩)⟩
theorem Far.step {ts : List Tok} {b3 : Bool} {j3 f : Nat} {L : List (Itm_k × Value)} {j : Nat} (h : Far ts b3 j3 (f + 1) L true j) (ht : (nthT ts j).text ≠ [125]) {x : Itm_k} {q : Value} (hx : ∀ x0, (itemR ts j).1 = some x0 → x = x0) : Far ts b3 j3 f (L ++ [(x, q)]) (itemR ts j).1.isSome (itemR ts j).2 := by
  obtain ⟨h1, h2, h3⟩ := h.on rfl
  rcases hr : itemR ts j with ⟨_ | x0, k⟩
  · refine ⟨fun e => (by cases e), fun _ xs => Or.inr (Or.inl ⟨h1, rfl, ?_⟩)⟩
    rw [← h3, prep_bad ht hr]
  · rw [hr] at hx
    have e := hx x0 rfl
    subst e
    have hlt := itemR_lt hr
    refine ⟨fun _ => ⟨h1, by simp; omega, ?_⟩, fun e => (by cases e)⟩
    rw [← h3, prep_step ht hr, List.map_append]
    rfl
theorem Far.fin {ts : List Tok} {b3 : Bool} {j3 f : Nat} {L : List (Itm_k × Value)} {ok : Bool} {j : Nat} (h : Far ts b3 j3 f L ok j) (hf : ok = true → 0 < f) (ht : ok = true → (nthT ts j).text = [125]) : Follows b3 j3 (itemsF ts.length ts) (L.map Prod.fst) ok j := by
  cases ok with
  | false => exact h.off rfl _
  | true =>
    obtain ⟨h1, -, h3⟩ := h.on rfl
    obtain ⟨f2, rfl⟩ : ∃ f2, f = f2 + 1 := ⟨f - 1, by have := hf rfl; omega⟩
    exact Or.inl ⟨h1, rfl, by rw [← h3, prep_end (ht rfl)]⟩
theorem Far.out {ts : List Tok} {b3 : Bool} {j3 f : Nat} {L : List (Itm_k × Value)} {j : Nat} (h : Far ts b3 j3 f L false j) : Follows b3 j3 (itemsF ts.length ts) (L.map Prod.fst) false j := h.off rfl _
theorem cell_oth {w : World} {g o : Nat} {x : Value} (h : w.cell? ⟨g, o, none⟩ = some x) {n : Nat} (hn : g ≠ n) (k : Nat) (u : Value) : (w.setCell ⟨n, k, none⟩ u).cell? ⟨g, o, none⟩ = some x := by
  rw [World.cell?_setCell_other _ _ _ _ (fun e => hn (congrArg Addr.block e).symm)]
  exact h
theorem grown_below {W w w' : World} {n : Nat} {row : Option Nat} (hb : Below n W w) (hg : w.grownBy w' row) (hr : ∀ k, row = some k → n ≤ k) (hn : n ≤ w.heap.size) : Below n W w' := below_grownO_k hb hg hr hn
set_option maxRecDepth 100000 in
set_option maxHeartbeats 8000000 in
theorem rparse_bad (l : List UInt8) (W : World) (her : (textG l).err ≠ 0) : Calls Tryz.prog 25 #[.string (str l)] W (ParseEnd W l) := by
  suffices H : ∀ R : Ending → World → Prop, (∀ e w', ParseEnd W l e w' → R e w') → Calls Tryz.prog 25 #[.string (str l)] W R from H _ (fun _ _ h => h)
  intro R hR
  have HR := hidden hR
  clear hR
  have hb0 : Below W.heap.size W ((W.alloc (.cells #[.string ⟨#[]⟩, .slice none 0 0] 52)).alloc (.cells #[.int .i64 0, .int .i64 0] 33)) := ((Below.refl _ _).alloc (Nat.le_refl _) _).alloc (by simp) _
  have HB0 := hidden hb0
  have HA : Hid (∀ W1, Calls Tryz.prog 53 #[.string (str l)] W1 (AllEnd W1 l)) := fun W1 => rall_any l W1
  have HS0 : Hid (Blk 52 W.heap.size ((W.alloc (.cells #[.string ⟨#[]⟩, .slice none 0 0] 52)).alloc (.cells #[.int .i64 0, .int .i64 0] 33)) #[.string ⟨#[]⟩, .slice none 0 0]) := (blk_new 52 W _).below ((Below.refl _ _).alloc (Nat.le_refl _) _)
  have HF0 : Hid (Blk 33 (W.heap.size + 1) ((W.alloc (.cells #[.string ⟨#[]⟩, .slice none 0 0] 52)).alloc (.cells #[.int .i64 0, .int .i64 0] 33)) #[.int .i64 0, .int .i64 0]) := by
    have h1 := blk_new 33 (W.alloc (.cells #[.string ⟨#[]⟩, .slice none 0 0] 52)) #[.int .i64 0, .int .i64 0]
    have h2 : (W.alloc (.cells #[.string ⟨#[]⟩, .slice none 0 0] 52)).heap.size = W.heap.size + 1 := by simp
    rw [h2] at h1
    exact h1
  have HZ : Hid (W.heap.size + 2 ≤ ((W.alloc (.cells #[.string ⟨#[]⟩, .slice none 0 0] 52)).alloc (.cells #[.int .i64 0, .int .i64 0] 33)).heap.size) := by show _ ≤ _; simp
  unfold AllEnd at HA
  unfold ParseEnd at HR
  clear hb0
  generalize textG l = G at *
  obtain ⟨ts, er, pl⟩ := G
  simp only at her HA HR
  have x1 : (er == 0) = false := by simpa using her
  have x2 : (er != 0) = true := by simpa using her
  go_enter Tryz.func25, Tryz.ntmps25
  go_wp2_with (go_at_call 53; (with_reducible refine (HA.out _).mono ?_); rintro e w1 ⟨vt, rfl, ht, hb⟩; obtain ⟨at0, ct0, rfl⟩ := ht.shape; have HB := hidden hb; clear ht hb)
  have hb1 := (Below.refl w1.heap.size w1).alloc (Nat.le_refl _) (.cells #[.int .i64 er, .int .i64 pl] 33)
  have HS2 := hidden ((HS0.out.below HB.out).below hb1)
  have HF2 := hidden ((HF0.out.below HB.out).below hb1)
  have HE2 := hidden (blk_new 33 w1 #[.int .i64 er, .int .i64 pl])
  have HB2 := hidden ((HB0.out.trans (HB.out.mono HB0.out.size)).trans (hb1.mono (HB0.out.trans (HB.out.mono HB0.out.size)).size))
  have HW1 : Hid (W.heap.size + 2 ≤ w1.heap.size) := Nat.le_trans HZ.out HB.out.size
  clear hb1
  generalize hW2 : w1.alloc (.cells #[.int .i64 er, .int .i64 pl] 33) = W2 at *
  refine wp_region_gen [2, 3] (fun d i u z => match i with
      | 0 => z = .agg #[.string ⟨#[]⟩, .slice none 0 0]
      | 1 => z = .agg #[.int .i64 er, .int .i64 pl]
      | 2 => True
      | 3 => True
      | _ => True) (fun d u => Blk 52 W.heap.size u #[.string ⟨#[]⟩, .slice none 0 0] ∧ (d 3 = true → Blk 33 (W.heap.size + 1) u #[.int .i64 er, .int .i64 pl]) ∧ (d 3 = false → Blk 33 (W.heap.size + 1) u #[.int .i64 0, .int .i64 0]) ∧ Blk 33 w1.heap.size u #[.int .i64 er, .int .i64 pl] ∧ Below W.heap.size W u) (by kernel_rfl) (by kernel_rfl) (by kernel_rfl) ?_ ?_ ?_ ?_ ?_ ?_ (by kernel_rfl)
  · intro d i w v w' h hb
    match i, h with
    | 0, h => exact h
    | 1, h => exact h
    | 2, h => exact h
    | 3, h => exact h
    | _ + 4, _ => trivial
  · intro d u u' h hb
    exact ⟨h.1.below hb, fun e => (h.2.1 e).below hb, fun e => (h.2.2.1 e).below hb, h.2.2.2.1.below hb, h.2.2.2.2.trans (hb.mono h.2.2.2.2.size)⟩
  · exact ⟨HS2.out, fun h => absurd h (by decide), fun _ => HF2.out, HE2.out, HB2.out⟩
  · intro d i o ρ w' hm ho hf hg hC hcs hfs hfr hdep
    match i, hm, ho, hf, hg, hfr, hdep with
    | 0, _, ho, hf, hg, hfr, hdep =>
      simp only [gTA, gCZ, gSI] at ho
      subst ho
      refine ⟨fun _ => ?_, fun hw => absurd (show true = false from hw) (by decide)⟩
      simp [go_sem]
      exact ⟨Below.refl _ _, rfl⟩
    | 1, _, ho, hf, hg, hfr, hdep =>
      simp only [gTA, gCZ, gCS, gSI] at ho
      subst ho
      refine ⟨fun _ => ?_, fun hw => absurd (show true = false from hw) (by decide)⟩
      have tq : ρ (.tmp 5) = .pointer (some ⟨w1.heap.size, 0, none⟩) := hfr 5 (by kernel_rfl)
      obtain ⟨c0, c1, -, -⟩ := hC.2.2.2.1.two
      simp [go_sem, tq, c0, c1]
      exact ⟨Below.refl _ _, rfl⟩
    | 2, hm, _, _, _, _, _ => exact absurd hm (by decide)
    | 3, hm, _, _, _, _, _ => exact absurd hm (by decide)
    | n + 4, _, ho, _, _, _, _ => simp at ho
  · intro d i o ρ w' hm ho h0 hf hg hC hcs hfs hfr hdep
    match i, hm, ho, h0, hf, hg, hfr, hdep with
    | 0, hm, _, _, _, _, _, _ => exact absurd hm (by decide)
    | 1, hm, _, _, _, _, _, _ => exact absurd hm (by decide)
    | 2, _, ho, h0, hf, hg, hfr, hdep =>
      simp only [gTA, gCZ, gCS, gSI] at ho
      subst ho
      refine ⟨rfl, ?_⟩
      have tq : ρ (.tmp 2) = .pointer (some ⟨W.heap.size, 0, none⟩) := hfr 2 (by kernel_rfl)
      have t0 : ρ (.tmp 16) = .agg #[.string ⟨#[]⟩, .slice none 0 0] := hdep 0 16 (by kernel_rfl) (by kernel_rfl)
      obtain ⟨c0, c1, f0, f1⟩ := hC.1.two
      simp [go_sem, tq, t0, c0, c1, f0, f1]
      have hw := HW1.out
      exact ⟨hC.1.set2 _ _, fun h => ((hC.2.1 (by simpa [doneAt] using h)).other (by omega) _).other (by omega) _, fun h => ((hC.2.2.1 (by simpa [doneAt] using h)).other (by omega) _).other (by omega) _, (hC.2.2.2.1.other (by omega) _).other (by omega) _, (hC.2.2.2.2.setCell (p := ⟨W.heap.size, 0, none⟩) (Nat.le_refl _) _).setCell (p := ⟨W.heap.size, 1, none⟩) (Nat.le_refl _) _⟩
    | 3, _, ho, h0, hf, hg, hfr, hdep =>
      simp only [gTA, gCZ, gCS, gSI] at ho
      subst ho
      refine ⟨rfl, ?_⟩
      have tq : ρ (.tmp 3) = .pointer (some ⟨W.heap.size + 1, 0, none⟩) := hfr 3 (by kernel_rfl)
      have t0 : ρ (.tmp 17) = .agg #[.int .i64 er, .int .i64 pl] := hdep 1 17 (by kernel_rfl) (by kernel_rfl)
      have hF := hC.2.2.1 h0
      obtain ⟨c0, c1, f0, f1⟩ := hF.two
      simp [go_sem, tq, t0, c0, c1, f0, f1]
      have hw := HW1.out
      exact ⟨(hC.1.other (by omega) _).other (by omega) _, fun _ => hF.set2 _ _, fun h => absurd h (by simp [doneAt]), (hC.2.2.2.1.other (by omega) _).other (by omega) _, (hC.2.2.2.2.setCell (p := ⟨W.heap.size + 1, 0, none⟩) (Nat.le_succ _) _).setCell (p := ⟨W.heap.size + 1, 1, none⟩) (Nat.le_succ _) _⟩
    | n + 4, _, ho, _, _, _, _, _ => simp at ho
  · intro V w9 hC9 hS
    simp only [puts, put_none]
    simp only [Act.put, List.setIfInBounds_toArray, List.set_cons_zero, List.set_cons_succ]
    clear hS 
    go_wp2
    obtain ⟨k0, k1, -, -⟩ := hC9.1.two
    obtain ⟨k2, k3, -, -⟩ := (hC9.2.1 rfl).two
    exact bodyPost_ret (v := .tuple #[.agg #[.string ⟨#[]⟩, .slice none 0 0], .agg #[.int .i64 er, .int .i64 pl]]) (by simp [results, Tryz.results25, go_sem, k0, k1, k2, k3]) rfl (HR.out _ _ ⟨Or.inl ⟨her, rfl⟩, hC9.2.2.2.2⟩)
theorem RGo.ownC {P v ts j ok W w1 w2} {row : Option Nat} {B : Nat} (h : RGo P v ts j ok W w1) (h0 : (∀ {n : Nat}, B ≤ n → v.ownBlock ≠ some n ∧ P ≠ n) ∧ W.heap.size ≤ B) (hg : w1.grownBy w2 row) (hr : ∀ k, row = some k → B ≤ k) : RGo P v ts j ok W w2 := by
  have ne : ∀ k, k < W.heap.size → some k ≠ row := fun k hk e => by have := hr k e.symm; have := h0.2; omega
  have neP : some P ≠ row := fun e => (h0.1 (hr P e.symm)).2 rfl
  refine ⟨⟨(hg.block P h.par.lt neP).trans h.par.here, ?_⟩, ?_⟩
  · obtain ⟨g', cap', he, hne, hlt', hc⟩ := h.par.row
    exact ⟨g', cap', he, hne, Nat.lt_of_lt_of_le hlt' hg.size, fun k hk => (hc k hk).block (hg.block g' hlt' (fun e => (h0.1 (hr g' e.symm)).1 (by rw [he]; rfl)))⟩
  · exact ⟨hg.os.trans h.grown.os, hg.tape.trans h.grown.tape, hg.output.trans h.grown.output, Nat.le_trans h.grown.size hg.size, fun k hk hne => (hg.block k (Nat.lt_of_lt_of_le hk h.grown.size) (ne k hk)).trans (h.grown.block k hk hne)⟩
set_option maxRecDepth 100000 in
set_option maxHeartbeats 8000000 in
theorem rparse_good (l : List UInt8) (W : World) (her : (textG l).err = 0) : Calls Tryz.prog 25 #[.string (str l)] W (ParseEnd W l) := by
  suffices H : ∀ R : Ending → World → Prop, (∀ e w', ParseEnd W l e w' → R e w') → Calls Tryz.prog 25 #[.string (str l)] W R from H _ (fun _ _ h => h)
  intro R hR
  have HR := hidden hR
  clear hR
  have hb0 : Below W.heap.size W ((W.alloc (.cells #[.string ⟨#[]⟩, .slice none 0 0] 52)).alloc (.cells #[.int .i64 0, .int .i64 0] 33)) := ((Below.refl _ _).alloc (Nat.le_refl _) _).alloc (by simp) _
  have HB0 := hidden hb0
  have HA : Hid (∀ W1, Calls Tryz.prog 53 #[.string (str l)] W1 (AllEnd W1 l)) := fun W1 => rall_any l W1
  have HS0 : Hid (Blk 52 W.heap.size ((W.alloc (.cells #[.string ⟨#[]⟩, .slice none 0 0] 52)).alloc (.cells #[.int .i64 0, .int .i64 0] 33)) #[.string ⟨#[]⟩, .slice none 0 0]) := (blk_new 52 W _).below ((Below.refl _ _).alloc (Nat.le_refl _) _)
  have HF0 : Hid (Blk 33 (W.heap.size + 1) ((W.alloc (.cells #[.string ⟨#[]⟩, .slice none 0 0] 52)).alloc (.cells #[.int .i64 0, .int .i64 0] 33)) #[.int .i64 0, .int .i64 0]) := by
    have h1 := blk_new 33 (W.alloc (.cells #[.string ⟨#[]⟩, .slice none 0 0] 52)) #[.int .i64 0, .int .i64 0]
    have h2 : (W.alloc (.cells #[.string ⟨#[]⟩, .slice none 0 0] 52)).heap.size = W.heap.size + 1 := by simp
    rw [h2] at h1
    exact h1
  have HZ : Hid (W.heap.size + 2 ≤ ((W.alloc (.cells #[.string ⟨#[]⟩, .slice none 0 0] 52)).alloc (.cells #[.int .i64 0, .int .i64 0] 33)).heap.size) := by show _ ≤ _; simp
  have hpl := text_zero her
  have HEND := hidden (text_ended her)
  have HLEN := hidden (text_len5 l)
  have HFIN := hidden (laid_fine _ _ (text_laid her).2 (text_ended her))
  unfold AllEnd at HA
  unfold ParseEnd at HR
  clear hb0
  generalize textG l = G at *
  obtain ⟨ts, er, pl⟩ := G
  simp only at her hpl HEND HLEN HFIN HA HR
  subst her
  subst hpl
  have HNN : Hid (ts ≠ []) := by intro e; have := HEND.out.pos; rw [e] at this; simp at this
  go_enter Tryz.func25, Tryz.ntmps25
  go_upto_region 6 with (go_at_call 53; (with_reducible refine (HA.out _).mono ?_); rintro e w1 ⟨vt, rfl, ht, hb⟩; obtain ⟨at0, ct0, rfl⟩ := ht.shape; have HT := hidden ht; have HB := hidden hb; clear ht hb)
  have HW1 : Hid (W.heap.size + 2 ≤ w1.heap.size) := Nat.le_trans HZ.out HB.out.size
  have hbF := (Below.refl w1.heap.size w1).alloc (Nat.le_refl _) (.cells #[.int .i64 0, .int .i64 0] 33)
  have hbS := hbF.alloc hbF.size (.cells #[.string ⟨#[]⟩, .slice none 0 0] 52)
  have hbP := hbS.alloc hbS.size (.cells #[.slice at0 ts.length ct0, .int .i64 0, .bool true] 108)
  have HBW := hidden ((HB0.out.trans (HB.out.mono HB0.out.size)).trans (hbP.mono (HB0.out.trans (HB.out.mono HB0.out.size)).size))
  have R0 := hidden ((HS0.out.below HB.out).below hbP)
  have Q0 := hidden ((HF0.out.below HB.out).below hbP)
  have z1 : (w1.alloc (.cells #[.int .i64 0, .int .i64 0] 33)).heap.size = w1.heap.size + 1 := by simp
  have z2 : ((w1.alloc (.cells #[.int .i64 0, .int .i64 0] 33)).alloc (.cells #[.string ⟨#[]⟩, .slice none 0 0] 52)).heap.size = w1.heap.size + 2 := by simp
  have S0 : Hid (Blk 52 (w1.heap.size + 1) (((w1.alloc (.cells #[.int .i64 0, .int .i64 0] 33)).alloc (.cells #[.string ⟨#[]⟩, .slice none 0 0] 52)).alloc (.cells #[(.slice at0 ts.length ct0), .int .i64 0, .bool true] 108)) #[.string ⟨#[]⟩, .slice none 0 0]) := by
    have h1 := (blk_new 52 (w1.alloc (.cells #[.int .i64 0, .int .i64 0] 33)) #[.string ⟨#[]⟩, .slice none 0 0]).below ((Below.refl _ _).alloc (Nat.le_refl _) (.cells #[(.slice at0 ts.length ct0), .int .i64 0, .bool true] 108))
    rw [z1] at h1
    exact h1
  have hP0 : Rdr (w1.heap.size + 2) (.slice at0 ts.length ct0) ts 0 true (((w1.alloc (.cells #[.int .i64 0, .int .i64 0] 33)).alloc (.cells #[.string ⟨#[]⟩, .slice none 0 0] 52)).alloc (.cells #[(.slice at0 ts.length ct0), .int .i64 0, .bool true] 108)) := by
    have hbk := blk_new 108 ((w1.alloc (.cells #[.int .i64 0, .int .i64 0] 33)).alloc (.cells #[.string ⟨#[]⟩, .slice none 0 0] 52)) #[(.slice at0 ts.length ct0), .int .i64 0, .bool true]
    rw [z2] at hbk
    obtain ⟨g, cap, he, hcc⟩ := HT.out.open HNN.out
    cases he
    have hlt := own_lt_k HT.out g rfl
    refine ⟨?_, g, ct0, rfl, by omega, Nat.lt_of_lt_of_le hlt hbP.size, fun k hk => ?_⟩
    · exact hbk
    · have f : ∀ r u, r < 4 → (tokC (nthT ts k))[r]? = some u → w1.cell? ⟨g, k * 4 + r, none⟩ = some u := fun r u hr hu => hcc _ u (by rw [flat_get ts k r hk hr]; exact hu)
      exact (show Cell4 w1 g (k * 4) (nthT ts k) from ⟨f 0 _ (by decide) rfl, f 1 _ (by decide) rfl, f 2 _ (by decide) rfl, f 3 _ (by decide) rfl⟩).below hbP
  have G0 : Hid (RGo (w1.heap.size + 2) (.slice at0 ts.length ct0) ts 0 true w1 (((w1.alloc (.cells #[.int .i64 0, .int .i64 0] 33)).alloc (.cells #[.string ⟨#[]⟩, .slice none 0 0] 52)).alloc (.cells #[(.slice at0 ts.length ct0), .int .i64 0, .bool true] 108))) := ⟨hP0, below_grows hbP _⟩
  have HVB : Hid (∀ {n : Nat}, w1.heap.size ≤ n → n ≠ w1.heap.size + 2 → Value.ownBlock (.slice at0 ts.length ct0) ≠ some n ∧ w1.heap.size + 2 ≠ n) := fun hn hne => ⟨fun e => by have := own_lt_k HT.out _ e; omega, fun e => hne e.symm⟩
  have HSZ4 : Hid ((((w1.alloc (.cells #[.int .i64 0, .int .i64 0] 33)).alloc (.cells #[.string ⟨#[]⟩, .slice none 0 0] 52)).alloc (.cells #[(.slice at0 ts.length ct0), .int .i64 0, .bool true] 108)).heap.size = w1.heap.size + 3) := by show _ = _; simp
  have HVR : Hid ((Value.ownBlock (.slice at0 ts.length ct0) ≠ some W.heap.size ∧ w1.heap.size + 2 ≠ W.heap.size) ∧ Value.ownBlock (.slice at0 ts.length ct0) ≠ some (W.heap.size + 1) ∧ w1.heap.size + 2 ≠ W.heap.size + 1) := by
    have h1 := own_row_k HT.out
    have h2 := HZ.out
    have h3 := HW1.out
    exact ⟨⟨fun e => by have := h1 _ e; omega, by omega⟩, fun e => by have := h1 _ e; omega, by omega⟩
  clear hP0 hbF hbS hbP z1 z2 HS0 HF0 HT HA HB0 HB HZ
  generalize hW4 : ((w1.alloc (.cells #[.int .i64 0, .int .i64 0] 33)).alloc (.cells #[.string ⟨#[]⟩, .slice none 0 0] 52)).alloc (.cells #[(.slice at0 ts.length ct0), .int .i64 0, .bool true] 108) = W4 at *
  clear hW4
  have HPS : Hid (w1.heap.size + 1 ≠ w1.heap.size + 2) := by show _ ≠ _; omega
  have HS1 : Hid (w1.heap.size ≤ w1.heap.size + 1) := Nat.le_succ _
  have HRP : Hid (W.heap.size ≠ w1.heap.size + 2) := by have := HW1.out; show _ ≠ _; omega
  have HQP : Hid (W.heap.size + 1 ≠ w1.heap.size + 2) := by have := HW1.out; show _ ≠ _; omega
  have HRS : Hid (W.heap.size ≠ w1.heap.size + 1) := by have := HW1.out; show _ ≠ _; omega
  have HQS : Hid (W.heap.size + 1 ≠ w1.heap.size + 1) := by have := HW1.out; show _ ≠ _; omega
  have HWP : Hid (W.heap.size ≤ w1.heap.size + 2) := by have := HW1.out; show _ ≤ _; omega
  have HWS : Hid (W.heap.size ≤ w1.heap.size + 1) := by have := HW1.out; show _ ≤ _; omega
  have HB4 : Hid (w1.heap.size + 3 ≤ W4.heap.size) := by have := HSZ4.out; show _ ≤ _; omega
  have HVS : Hid (Value.ownBlock (.slice at0 ts.length ct0) ≠ some (w1.heap.size + 1) ∧ w1.heap.size + 2 ≠ w1.heap.size + 1) := HVB.out HS1.out HPS.out
  generalize hPE : w1.heap.size + 2 = P at *
  generalize hSE : w1.heap.size + 1 = S at *
  generalize hBE : w1.heap.size + 3 = B at *
  have HPB : Hid (P < B) := by show _ < _; omega
  have HSB : Hid (S < B) := by show _ < _; omega
  have HRB : Hid (W.heap.size < B) := by have := HW1.out; show _ < _; omega
  have HQB : Hid (W.heap.size + 1 < B) := by have := HW1.out; show _ < _; omega
  have HWB : Hid (W.heap.size ≤ B) := Nat.le_of_lt HRB.out
  have HLL : Hid (ts.length ≤ 2000000) := HLEN.out
  have hEP := HEND.out.pos
  have HW : Hid (∀ w q1 b1, Rdr P (.slice at0 ts.length ct0) ts q1 b1 w → q1 < ts.length → Calls Tryz.prog 55 #[.pointer (some ⟨P, 0, none⟩)] w fun e w' => ∃ (n : List UInt8) (b' : Bool) (q' : Nat), e = .returned (.string (str n)) ∧ Follows b1 q1 (nameR ts) n b' q' ∧ RGo P (.slice at0 ts.length ct0) ts q' b' w w' ∧ q' < ts.length) := fun w q1 b1 h1 h2 => rdword_any P _ ts q1 b1 w h1 h2 HLEN.out HEND.out
  have HMG : Hid (∀ w q1 b1, Rdr P (.slice at0 ts.length ct0) ts q1 b1 w → q1 < ts.length → Calls Tryz.prog 54 #[.pointer (some ⟨P, 0, none⟩), .int .u8 1, .string ⟨#[103, 114, 97, 112, 104]⟩] w fun e w' => e = .returned (.tuple #[]) ∧ ∃ b' q', Follows b1 q1 (textR ts [103, 114, 97, 112, 104]) () b' q' ∧ RGo P (.slice at0 ts.length ct0) ts q' b' w w' ∧ q' < ts.length) := fun w q1 b1 h1 h2 => must_any P _ ts q1 b1 w h1 h2 HLEN.out HFIN.out HEND.out 1 _ ⟨by decide, Or.inl ⟨rfl, by decide⟩⟩
  have HMO : Hid (∀ w q1 b1, Rdr P (.slice at0 ts.length ct0) ts q1 b1 w → q1 < ts.length → Calls Tryz.prog 54 #[.pointer (some ⟨P, 0, none⟩), .int .u8 3, .string ⟨#[123]⟩] w fun e w' => e = .returned (.tuple #[]) ∧ ∃ b' q', Follows b1 q1 (textR ts [123]) () b' q' ∧ RGo P (.slice at0 ts.length ct0) ts q' b' w w' ∧ q' < ts.length) := fun w q1 b1 h1 h2 => must_any P _ ts q1 b1 w h1 h2 HLEN.out HFIN.out HEND.out 3 _ ⟨by decide, Or.inr ⟨rfl, by decide⟩⟩
  have HMC : Hid (∀ w q1 b1, Rdr P (.slice at0 ts.length ct0) ts q1 b1 w → q1 < ts.length → Calls Tryz.prog 54 #[.pointer (some ⟨P, 0, none⟩), .int .u8 3, .string ⟨#[125]⟩] w fun e w' => e = .returned (.tuple #[]) ∧ ∃ b' q', Follows b1 q1 (textR ts [125]) () b' q' ∧ RGo P (.slice at0 ts.length ct0) ts q' b' w w' ∧ q' < ts.length) := fun w q1 b1 h1 h2 => must_any P _ ts q1 b1 w h1 h2 HLEN.out HFIN.out HEND.out 3 _ ⟨by decide, Or.inr ⟨rfl, by decide⟩⟩
  have HIC : Hid (∀ w q1, Rdr P (.slice at0 ts.length ct0) ts q1 true w → q1 < ts.length → Calls Tryz.prog 56 #[.pointer (some ⟨P, 0, none⟩), .int .u8 3, .string ⟨#[125]⟩] w fun e w' => e = .returned (.bool (decide ((nthT ts q1).text = [125]))) ∧ Below w.heap.size w w') := fun w q1 h1 h2 => ris_key P _ ts q1 true w h1 h2 HLEN.out HFIN.out 3 [125] ⟨by decide, Or.inr ⟨rfl, by decide⟩⟩
  have HITM : Hid (∀ w q1, Rdr P (.slice at0 ts.length ct0) ts q1 true w → q1 < ts.length → Calls Tryz.prog 57 #[.pointer (some ⟨P, 0, none⟩)] w fun e w' => ∃ (x : Itm_k) (a : Option Addr) (c : Nat), (∀ x0, (itemR ts q1).1 = some x0 → x = x0) ∧ e = .returned (.agg (itC_k x.kind x.name x.tag (.slice a x.nums.length c) x.frm x.to x.place)) ∧ Ints_k w.heap.size w' (.slice a x.nums.length c) x.nums ∧ RGo P (.slice at0 ts.length ct0) ts (itemR ts q1).2 (itemR ts q1).1.isSome w w') := fun w q1 h1 h2 => ritem_det P _ ts q1 w h1 h2 HLEN.out HFIN.out HEND.out
  have HITL : Hid (∀ q1, q1 < ts.length → (itemR ts q1).2 < ts.length) := fun q1 h => itemR_in HEND.out h
  go_wp2_with (first
    | (go_at_call 54; (with_reducible refine (HMO.out _ _ _ G2.out.par hj2).mono ?_); rintro e u3 ⟨rfl, b3, j3, F3, hg, hj3⟩; have G3 := hidden (G2.out.trans hg); have S3 := hidden (S2.out.grown hg.grown (fun e => HPS.out (Option.some.inj e))); have R3 := hidden (R2.out.grown hg.grown (fun e => HRP.out (Option.some.inj e))); have Q3 := hidden (Q2.out.grown hg.grown (fun e => HQP.out (Option.some.inj e))); have BW3 := hidden (grown_below BW2.out hg.grown (fun k e => by cases e; exact HWP.out) BW2.out.size); have Z3 : Hid (B ≤ u3.heap.size) := Nat.le_trans Z2.out hg.grown.size; clear hg)
    | (go_at_call 55; (with_reducible refine (HW.out _ _ _ G1.out.par hj1).mono ?_); rintro e u2 ⟨nam, b2, j2, rfl, F2, hg, hj2⟩; have Sk := S1.out.grown hg.grown (fun e => HPS.out (Option.some.inj e)); have c20 := Sk.cell (k := 0) rfl; have f20 := Sk.frozen 0; have G2 := hidden ((G1.out.trans hg).put (k := 0) HVS.out HS1.out (.string (str nam))); have S2 : Hid (Blk 52 S (u2.setCell ⟨S, 0, none⟩ (.string (str nam))) #[.string (str nam), .slice none 0 0]) := Sk.set 0 (.string (str nam)); have R2 := hidden ((R1.out.grown hg.grown (fun e => HRP.out (Option.some.inj e))).other (m := S) (k := 0) HRS.out (.string (str nam))); have Q2 := hidden ((Q1.out.grown hg.grown (fun e => HQP.out (Option.some.inj e))).other (m := S) (k := 0) HQS.out (.string (str nam))); have BW2 := hidden ((grown_below BW1.out hg.grown (fun k e => by cases e; exact HWP.out) BW1.out.size).setCell (p := ⟨S, 0, none⟩) HWS.out (.string (str nam))); have Z2 : Hid (B ≤ (u2.setCell ⟨S, 0, none⟩ (.string (str nam))).heap.size) := by { show _ ≤ _; rw [World.size_setCell]; exact Nat.le_trans Z1.out hg.grown.size }; clear hg Sk)
    | (go_at_call 54; (with_reducible refine (HMG.out _ _ _ G0.out.par hEP).mono ?_); rintro e u1 ⟨rfl, b1, j1, F1, hg, hj1⟩; have G1 := hidden (G0.out.trans hg); have S1 := hidden (S0.out.grown hg.grown (fun e => HPS.out (Option.some.inj e))); have R1 := hidden (R0.out.grown hg.grown (fun e => HRP.out (Option.some.inj e))); have Q1 := hidden (Q0.out.grown hg.grown (fun e => HQP.out (Option.some.inj e))); have BW1 := hidden (grown_below HBW.out hg.grown (fun k e => by cases e; exact HWP.out) HBW.out.size); have Z1 : Hid (B ≤ u1.heap.size) := Nat.le_trans HB4.out hg.grown.size; clear hg))
  go_loopg [] (ts.length + 1) (fun gk wr => ∃ (j : Nat) (ok : Bool) (L : List (Itm_k × Value)) (a : Option Addr) (c : Nat), j < ts.length ∧ (ok = true → L.length + gk = ts.length + 1) ∧ L.length + gk ≤ ts.length + 1 ∧ 0 < gk ∧ Far ts b3 j3 (gk - 1) L ok j ∧ RGo P (.slice at0 ts.length ct0) ts j ok w1 wr ∧ Blk 52 S wr #[.string (str nam), .slice a L.length c] ∧ Its_k B wr (.slice a L.length c) L ∧ Blk 52 W.heap.size wr #[.string ⟨#[]⟩, .slice none 0 0] ∧ Blk 33 (W.heap.size + 1) wr #[.int .i64 0, .int .i64 0] ∧ Below W.heap.size W wr ∧ B ≤ wr.heap.size)
  case atStart => exact ⟨j3, b3, [], none, 0, hj3, fun _ => by simp, by simp, by omega, far_start ts b3 j3, G3.out, S3.out, its_nil_k _ _, R3.out, Q3.out, BW3.out, Z3.out⟩
  case round =>
    clear G3 S3 R3 Q3 BW3 Z3 G0 R0 Q0 S0 G1 G2 S1 S2 R1 R2 Q1 Q2 BW1 BW2 Z1 Z2 HBW
    obtain ⟨j, ok, L, a, c, hj, hLg, hLg2, hgk, hfar, hgo, hsb, hits, hrb, hqb, hbw, hsz⟩ := hrel
    obtain ⟨f, rfl⟩ : ∃ f, gk = f + 1 := ⟨gk - 1, by omega⟩
    rw [Nat.add_sub_cancel] at hfar
    have HFAR := hidden hfar
    have GO := hidden hgo
    have SO := hidden hsb
    have IO := hidden hits
    have RO := hidden hrb
    have QO := hidden hqb
    have BO := hidden hbw
    have ZO := hidden hsz
    have k2 := hgo.par.c2
    have HLg := hidden hLg
    clear hgo hsb hits hrb hqb hbw hsz hfar hLg
    by_cases hon : ok = true ∧ (nthT ts j).text ≠ [125]
    · obtain ⟨rfl, ht⟩ := hon
      have HS9 : Hid (∀ w, Rdr P (.slice at0 ts.length ct0) ts j true w → Calls Tryz.prog 56 #[.pointer (some ⟨P, 0, none⟩), .int .u8 3, .string ⟨#[125]⟩] w fun e w' => e = .returned (.bool false) ∧ Below w.heap.size w w') := fun w h1 => by
        have := HIC.out w j h1 hj
        rw [decide_eq_false ht] at this
        exact this
      have hlg := HLg.out rfl
      have hjl := (HFAR.out.on rfl).2.1
      obtain ⟨f2, rfl⟩ : ∃ f2, f = f2 + 1 := ⟨f - 1, by omega⟩
      have HLN : Hid (L.length ≤ 2000000) := by have := HLEN.out; show _ ≤ _; omega
      have HFS : Hid (∀ x q, (∀ x0, (itemR ts j).1 = some x0 → x = x0) → Far ts b3 j3 f2 (L ++ [(x, q)]) (itemR ts j).1.isSome (itemR ts j).2) := fun x q hx => HFAR.out.step ht hx
      have HIT : Hid (∀ w, Rdr P (.slice at0 ts.length ct0) ts j true w → Calls Tryz.prog 57 #[.pointer (some ⟨P, 0, none⟩)] w fun e w' => ∃ (x : Itm_k) (a : Option Addr) (c : Nat), (∀ x0, (itemR ts j).1 = some x0 → x = x0) ∧ e = .returned (.agg (itC_k x.kind x.name x.tag (.slice a x.nums.length c) x.frm x.to x.place)) ∧ Ints_k w.heap.size w' (.slice a x.nums.length c) x.nums ∧ RGo P (.slice at0 ts.length ct0) ts (itemR ts j).2 (itemR ts j).1.isSome w w') := fun w h1 => HITM.out w j h1 hj
      have hj2 := HITL.out j hj
      clear ht HFAR
      generalize (itemR ts j).1.isSome = ok2 at *
      generalize (itemR ts j).2 = j2 at *
      generalize hK : (fun x : Itm_k => ∀ x0, (itemR ts j).1 = some x0 → x = x0) = K at *
      have HIT2 : Hid (∀ w, Rdr P (.slice at0 ts.length ct0) ts j true w → Calls Tryz.prog 57 #[.pointer (some ⟨P, 0, none⟩)] w fun e w' => ∃ (x : Itm_k) (a : Option Addr) (c : Nat), K x ∧ e = .returned (.agg (itC_k x.kind x.name x.tag (.slice a x.nums.length c) x.frm x.to x.place)) ∧ Ints_k w.heap.size w' (.slice a x.nums.length c) x.nums ∧ RGo P (.slice at0 ts.length ct0) ts j2 ok2 w w') := by rw [← hK]; exact HIT.out
      have HFS2 : Hid (∀ x q, K x → Far ts b3 j3 f2 (L ++ [(x, q)]) ok2 j2) := by rw [← hK]; exact HFS.out
      clear HIT HFS hK
      go_wp2_with (go_at_call 56; (with_reducible refine (HS9.out _ GO.out.par).mono ?_); rintro e w5 ⟨rfl, hb⟩; have G5 := hidden (GO.out.later hb); have S5 := hidden (SO.out.below hb); have R5 := hidden (RO.out.below hb); have Q5 := hidden (QO.out.below hb); have I5 := hidden (IO.out.below hb); have BW5 := hidden (BO.out.trans (hb.mono BO.out.size)); have HB5 : Hid (B ≤ w5.heap.size) := Nat.le_trans ZO.out hb.size; clear hb)
      have HP5 : Hid (P < w5.heap.size) := G5.out.par.lt
      have HS5 : Hid (S < w5.heap.size) := S5.out.lt
      have HOWN : Hid ((∀ {n : Nat}, B ≤ n → Value.ownBlock (.slice at0 ts.length ct0) ≠ some n ∧ P ≠ n) ∧ w1.heap.size ≤ B) := ⟨fun {n} hn => HVB.out (n := n) (by omega) (by have := HPB.out; omega), by omega⟩
      have HLOW : Hid (∀ k, ((Value.slice a L.length c).ownBlock = some k ∨ ∃ p ∈ L, p.2.ownBlock = some k) → k < w5.heap.size) := fun k e => by
        rcases e with e | ⟨p, hp, e⟩
        · exact own_lt_k I5.out.row k e
        · exact own_lt_k (I5.out.nums p hp) k e
      refine wp_region_gen [2, 4, 6] (fun d i u z => match i with
          | 0 => z = .pointer (some ⟨S, 1, none⟩)
          | 1 => z = .slice a L.length c
          | 2 => d 2 = true ∧ ∃ x, K x ∧ ∃ a' c', z = .agg (itC_k x.kind x.name x.tag (.slice a' x.nums.length c') x.frm x.to x.place) ∧ Ints_k w5.heap.size u (.slice a' x.nums.length c') x.nums
          | 3 => ∃ b, z = .slice (some ⟨b, 0, none⟩) 1 1 ∧ w5.heap.size ≤ b ∧ b < u.heap.size ∧ ∃ x, K x ∧ ∃ a' c', (∀ k y, (itP_k (x, .slice a' x.nums.length c'))[k]? = some y → u.cell? ⟨b, k, none⟩ = some y) ∧ Ints_k w5.heap.size u (.slice a' x.nums.length c') x.nums
          | 4 => d 4 = true ∧ ∃ x, K x ∧ ∃ q a2 c2, z = .slice a2 (L.length + 1) c2 ∧ Its_k B u (.slice a2 (L.length + 1) c2) (L ++ [(x, q)])
          | 5 => z = .pointer (some ⟨S, 1, none⟩)
          | 6 => True
          | _ => True) (fun d u => (d 2 = true → RGo P (.slice at0 ts.length ct0) ts j2 ok2 w1 u) ∧ (d 2 = false → RGo P (.slice at0 ts.length ct0) ts j true w1 u) ∧ (d 4 = false → Its_k B u (.slice a L.length c) L) ∧ (d 6 = true → ∃ x, K x ∧ ∃ q a2 c2, Blk 52 S u #[.string (str nam), .slice a2 (L.length + 1) c2] ∧ Its_k B u (.slice a2 (L.length + 1) c2) (L ++ [(x, q)])) ∧ (d 6 = false → Blk 52 S u #[.string (str nam), .slice a L.length c]) ∧ Blk 52 W.heap.size u #[.string ⟨#[]⟩, .slice none 0 0] ∧ Blk 33 (W.heap.size + 1) u #[.int .i64 0, .int .i64 0] ∧ Below W.heap.size W u ∧ w5.heap.size ≤ u.heap.size) (by kernel_rfl) (by kernel_rfl) (by kernel_rfl) ?_ ?_ ?_ ?_ ?_ ?_ (by kernel_rfl)
      · intro d i w v w' h hb
        match i, h with
        | 0, h => exact h
        | 1, h => exact h
        | 2, h => obtain ⟨q0, x, hk, a', c', q1, q2⟩ := h; exact ⟨q0, x, hk, a', c', q1, q2.below hb⟩
        | 3, h => obtain ⟨b, q1, q2, q3, x, hk, a', c', q4, q5⟩ := h; exact ⟨b, q1, q2, Nat.lt_of_lt_of_le q3 hb.size, x, hk, a', c', fun k y hy => (hb.cell (p := ⟨b, k, none⟩) q3).trans (q4 k y hy), q5.below hb⟩
        | 4, h => obtain ⟨q0, x, hk, q, a2, c2, q1, q2⟩ := h; exact ⟨q0, x, hk, q, a2, c2, q1, q2.below hb⟩
        | 5, h => exact h
        | 6, h => exact h
        | _ + 7, _ => trivial
      · intro d u u' h hb
        exact ⟨fun h1 => (h.1 h1).later hb, fun h1 => (h.2.1 h1).later hb, fun h1 => (h.2.2.1 h1).below hb, fun h1 => by { obtain ⟨x, hk, q, a2, c2, q1, q2⟩ := h.2.2.2.1 h1; exact ⟨x, hk, q, a2, c2, q1.below hb, q2.below hb⟩ }, fun h1 => (h.2.2.2.2.1 h1).below hb, h.2.2.2.2.2.1.below hb, h.2.2.2.2.2.2.1.below hb, h.2.2.2.2.2.2.2.1.trans (hb.mono h.2.2.2.2.2.2.2.1.size), Nat.le_trans h.2.2.2.2.2.2.2.2 hb.size⟩
      · exact ⟨fun h => absurd h (by decide), fun _ => G5.out, fun _ => I5.out, fun h => absurd h (by decide), fun _ => S5.out, R5.out, Q5.out, BW5.out, Nat.le_refl _⟩
      · intro d i o ρ w' hm ho hf hg hC hcs hfs hfr hdep
        match i, hm, ho, hf, hg, hfr, hdep with
        | 0, _, ho, hf, hg, hfr, hdep =>
          simp only [gTA, gCZ, gSI] at ho
          subst ho
          refine ⟨fun _ => ?_, fun hw => absurd (show true = false from hw) (by decide)⟩
          have tq : ρ (.tmp 6) = .pointer (some ⟨S, 0, none⟩) := hfr 6 (by kernel_rfl)
          simp [go_sem, tq]
          exact ⟨Below.refl _ _, rfl⟩
        | 1, _, ho, hf, hg, hfr, hdep =>
          simp only [gTA, gCZ, gCS, gSI] at ho
          subst ho
          refine ⟨fun _ => ?_, fun hw => absurd (show true = false from hw) (by decide)⟩
          have Bk := hC.2.2.2.2.1 (hf 6 (by decide) (by kernel_rfl))
          have c3 : w'.cell? ⟨S, 1, none⟩ = some (.slice a L.length c) := Bk.cell (k := 1) rfl
          have d0 : ρ (.tmp 30) = .pointer (some ⟨S, 1, none⟩) := hdep 0 30 (by kernel_rfl) (by kernel_rfl)
          simp [go_sem, d0, c3]
          exact ⟨Below.refl _ _, rfl⟩
        | 2, hm, _, _, _, _, _ => exact absurd hm (by decide)
        | 3, _, ho, hf, hg, hfr, hdep =>
          simp only [gTA, gCZ, gCS, gSI] at ho
          subst ho
          refine ⟨fun _ => ?_, fun hw => absurd (show true = false from hw) (by decide)⟩
          obtain ⟨-, x, hk, a', c', e3, hin⟩ : d 2 = true ∧ ∃ x, K x ∧ ∃ a' c', ρ (.tmp 32) = .agg (itC_k x.kind x.name x.tag (.slice a' x.nums.length c') x.frm x.to x.place) ∧ Ints_k w5.heap.size w' (.slice a' x.nums.length c') x.nums := hdep 2 32 (by kernel_rfl) (by kernel_rfl)
          simp [go_sem, e3, itC_k]
          refine ⟨(Below.refl _ _).alloc (Nat.le_refl _) _, _, rfl, hC.2.2.2.2.2.2.2.2, by simp, x, hk, a', c', fun k y hy => ?_, hin.below ((Below.refl _ _).alloc (Nat.le_refl _) _)⟩
          exact (show Blk 103 w'.heap.size _ (itC_k x.kind x.name x.tag (.slice a' x.nums.length c') x.frm x.to x.place) from blk_new 103 w' _).cell (by rw [← Array.getElem?_toList]; exact hy)
        | 4, hm, _, _, _, _, _ => exact absurd hm (by decide)
        | 5, _, ho, hf, hg, hfr, hdep =>
          simp only [gTA, gCZ, gCS, gSI] at ho
          subst ho
          refine ⟨fun _ => ?_, fun hw => absurd (show true = false from hw) (by decide)⟩
          have tq : ρ (.tmp 6) = .pointer (some ⟨S, 0, none⟩) := hfr 6 (by kernel_rfl)
          simp [go_sem, tq]
          exact ⟨Below.refl _ _, rfl⟩
        | 6, hm, _, _, _, _, _ => exact absurd hm (by decide)
        | n + 7, _, ho, _, _, _, _ => simp at ho
      · intro d i o ρ w' hm ho h0 hf hg hC hcs hfs hfr hdep
        match i, hm, ho, h0, hf, hg, hfr, hdep with
        | 0, hm, _, _, _, _, _, _ => exact absurd hm (by decide)
        | 1, hm, _, _, _, _, _, _ => exact absurd hm (by decide)
        | 2, _, ho, h0, hf, hg, hfr, hdep =>
          simp only [gTA, gCZ, gCS, gSI] at ho
          subst ho
          refine ⟨rfl, ?_⟩
          have tq : ρ (.tmp 7) = .pointer (some ⟨P, 0, none⟩) := hfr 7 (by kernel_rfl)
          simp [go_sem, tq, hfs]
          refine ⟨rfl, (HIT2.out _ (hC.2.1 h0).par).mono ?_⟩
          rintro e u ⟨x, a', c', hk, rfl, hin, hg⟩
          refine ⟨_, rfl, ⟨fun _ => (hC.2.1 h0).trans hg, fun h => absurd h (by simp [doneAt]), fun h => (hC.2.2.1 (by simpa [doneAt] using h)).grown hg.grown HPB.out, fun h => ?_, fun h => ?_, hC.2.2.2.2.2.1.grown hg.grown (fun e => HRP.out (Option.some.inj e)), hC.2.2.2.2.2.2.1.grown hg.grown (fun e => HQP.out (Option.some.inj e)), grown_below hC.2.2.2.2.2.2.2.1 hg.grown (fun k e => by cases e; exact HWP.out) hC.2.2.2.2.2.2.2.1.size, Nat.le_trans hC.2.2.2.2.2.2.2.2 hg.grown.size⟩, ⟨by simp [doneAt], x, hk, a', c', rfl, hin.mono hC.2.2.2.2.2.2.2.2⟩, ?_⟩
          · obtain ⟨x, hk, q, a2, c2, q1, q2⟩ := hC.2.2.2.1 (by simpa [doneAt] using h)
            exact ⟨x, hk, q, a2, c2, q1.grown hg.grown (fun e => HPS.out (Option.some.inj e)), q2.grown hg.grown HPB.out⟩
          · exact (hC.2.2.2.2.1 (by simpa [doneAt] using h)).grown hg.grown (fun e => HPS.out (Option.some.inj e))
          · intro j t _ hs
            match j, hs with
            | 0, hs => exact hs
            | 1, hs => exact hs
            | 2, hs => exact absurd (h0.symm.trans hs.1) (by decide)
            | 3, hs => obtain ⟨b, q1, q2, q3, x, hk, a', c', q4, q5⟩ := hs; exact ⟨b, q1, q2, Nat.lt_of_lt_of_le q3 hg.grown.size, x, hk, a', c', fun k y hy => hg.grown.cell (q4 k y hy) (fun e => by have h1 := Option.some.inj e; have h2 := HP5.out; dsimp only at h1; omega), q5.grown hg.grown HP5.out⟩
            | 4, hs => obtain ⟨q0, x, hk, q, a2, c2, q1, q2⟩ := hs; exact ⟨by simpa [doneAt] using q0, x, hk, q, a2, c2, q1, q2.grown hg.grown HPB.out⟩
            | 5, hs => exact hs
            | 6, hs => exact hs
            | _ + 7, _ => trivial
        | 3, hm, _, _, _, _, _, _ => exact absurd hm (by decide)
        | 4, _, ho, h0, hf, hg, hfr, hdep =>
          simp only [gTA, gCZ, gCS, gSI] at ho
          subst ho
          refine ⟨rfl, ?_⟩
          obtain ⟨b, e4, q2, q3, x, hk, a', c', q4, q5⟩ : ∃ b, ρ (.tmp 33) = .slice (some ⟨b, 0, none⟩) 1 1 ∧ w5.heap.size ≤ b ∧ b < w'.heap.size ∧ ∃ x, K x ∧ ∃ a' c', (∀ k y, (itP_k (x, .slice a' x.nums.length c'))[k]? = some y → w'.cell? ⟨b, k, none⟩ = some y) ∧ Ints_k w5.heap.size w' (.slice a' x.nums.length c') x.nums := hdep 3 33 (by kernel_rfl) (by kernel_rfl)
          have tq : ρ (.tmp 31) = .slice a L.length c := hdep 1 31 (by kernel_rfl) (by kernel_rfl)
          have hN := hC.2.2.1 h0
          have hlB : B ≤ w'.heap.size := Nat.le_trans HB5.out hC.2.2.2.2.2.2.2.2
          obtain ⟨r', w'', hr, ho, hg⟩ := items_more B w' a c L x (.slice a' x.nums.length c') b hN.row q4 HLN.out hlB
          unfold execOp
          simp only [resolve, invoke, builtin, Sem.run_bind, Sem.run_pure, Result.andThen_ok, List.map_toArray, List.map_cons, List.map_nil, tq, e4, hr]
          have hA := Its_k.app hN q5 HLOW.out HB5.out ho hg
          obtain ⟨a2, c2, rfl⟩ := hA.shape
          have hlen : (L ++ [(x, Value.slice a' x.nums.length c')]).length = L.length + 1 := by simp
          rw [hlen] at hA ho hg ⊢
          have hgr : w'.grownBy w'' (Value.slice a L.length c).ownBlock := by rcases hg with ⟨g, cap, e1, _, h2⟩ | ⟨cap, _, h2⟩ <;> first | (rw [e1]; exact h2) | exact grown_wide h2 _
          have hrow : ∀ k, (Value.slice a L.length c).ownBlock = some k → B ≤ k := own_row_k hN.row
          have hlow : ∀ k, (Value.slice a L.length c).ownBlock = some k → k < w5.heap.size := fun k e => HLOW.out k (Or.inl e)
          have hd6 := hf 6 (by decide) (by kernel_rfl)
          have hRB := HRB.out
          have hQB := HQB.out
          have hSB := HSB.out
          have hPB := HPB.out
          refine ⟨⟨fun h => (hC.1 (by simpa [doneAt] using h)).ownC HOWN.out hgr (fun k e => hrow k e), fun h => (hC.2.1 (by simpa [doneAt] using h)).ownC HOWN.out hgr (fun k e => hrow k e), fun h => absurd h (by simp [doneAt]), fun h => absurd (hd6.symm.trans (by simpa [doneAt] using h)) (by decide), fun _ => (hC.2.2.2.2.1 hd6).grown hgr (fun e => by have h1 := hrow _ e.symm; omega), hC.2.2.2.2.2.1.grown hgr (fun e => by have h1 := hrow _ e.symm; omega), hC.2.2.2.2.2.2.1.grown hgr (fun e => by have h1 := hrow _ e.symm; omega), grown_below hC.2.2.2.2.2.2.2.1 hgr (fun k e => Nat.le_trans HWB.out (hrow k e)) hC.2.2.2.2.2.2.2.1.size, Nat.le_trans hC.2.2.2.2.2.2.2.2 hgr.size⟩, fun _ => ⟨by simp [doneAt], x, hk, _, a2, c2, rfl, hA⟩, ?_⟩
          intro j t _ hs
          match j, hs with
          | 0, hs => exact hs
          | 1, hs => exact hs
          | 2, hs => obtain ⟨q0, x, hk, a', c', q1, q2⟩ := hs; exact ⟨by simpa [doneAt] using q0, x, hk, a', c', q1, q2.kept hgr hlow⟩
          | 3, hs => obtain ⟨b, q1, q2, q3, x, hk, a', c', q4, q5⟩ := hs; exact ⟨b, q1, q2, Nat.lt_of_lt_of_le q3 hgr.size, x, hk, a', c', fun k y hy => hgr.cell (q4 k y hy) (fun e => by have h1 := hlow _ e.symm; dsimp only at h1; omega), q5.kept hgr hlow⟩
          | 4, hs => exact absurd (h0.symm.trans hs.1) (by decide)
          | 5, hs => exact hs
          | 6, hs => exact hs
          | _ + 7, _ => trivial
        | 5, hm, _, _, _, _, _, _ => exact absurd hm (by decide)
        | 6, _, ho, h0, hf, hg, hfr, hdep =>
          simp only [gTA, gCZ, gCS, gSI] at ho
          subst ho
          refine ⟨rfl, ?_⟩
          have t1 : ρ (.tmp 35) = .pointer (some ⟨S, 1, none⟩) := hdep 5 35 (by kernel_rfl) (by kernel_rfl)
          obtain ⟨hd4, x, hk, q, a2, c2, e5, hn5⟩ : d 4 = true ∧ ∃ x, K x ∧ ∃ q a2 c2, ρ (.tmp 34) = .slice a2 (L.length + 1) c2 ∧ Its_k B w' (.slice a2 (L.length + 1) c2) (L ++ [(x, q)]) := hdep 4 34 (by kernel_rfl) (by kernel_rfl)
          have Bk := hC.2.2.2.2.1 h0
          have c3 := Bk.cell (k := 1) rfl
          have f3 := Bk.frozen 1
          simp [go_sem, t1, e5, c3, f3]
          refine ⟨⟨fun h => (hC.1 (by simpa [doneAt] using h)).put HVS.out HS1.out _, fun h => (hC.2.1 (by simpa [doneAt] using h)).put HVS.out HS1.out _, fun h => absurd (hd4.symm.trans (by simpa [doneAt] using h)) (by decide), fun _ => ⟨x, hk, q, a2, c2, Bk.set 1 _, hn5.put HSB.out⟩, fun h => absurd h (by simp [doneAt]), hC.2.2.2.2.2.1.other HRS.out _, hC.2.2.2.2.2.2.1.other HQS.out _, hC.2.2.2.2.2.2.2.1.setCell (p := ⟨S, 1, none⟩) HWS.out _, by rw [World.size_setCell]; exact hC.2.2.2.2.2.2.2.2⟩, ?_⟩
          intro j t _ hs
          match j, hs with
          | 0, hs => exact hs
          | 1, hs => exact hs
          | 2, hs => obtain ⟨q0, x, hk, a', c', q1, q2⟩ := hs; exact ⟨by simpa [doneAt] using q0, x, hk, a', c', q1, q2.put HS5.out⟩
          | 3, hs => obtain ⟨b, q1, q2, q3, x, hk, a', c', q4, q5⟩ := hs; exact ⟨b, q1, q2, by rw [World.size_setCell]; exact q3, x, hk, a', c', fun k y hy => by rw [World.cell?_setCell_other _ _ _ _ (fun e => by have h1 := congrArg Addr.block e; have h2 := HS5.out; dsimp only at h1; omega)]; exact q4 k y hy, q5.put HS5.out⟩
          | 4, hs => obtain ⟨q0, x, hk, q, a2, c2, q1, q2⟩ := hs; exact ⟨by simpa [doneAt] using q0, x, hk, q, a2, c2, q1, q2.put HSB.out⟩
          | 5, hs => exact hs
          | 6, hs => exact hs
          | _ + 7, _ => trivial
        | n + 7, _, ho, _, _, _, _, _ => simp at ho
      · intro V w9 hC9 hS
        simp only [puts, put_none]
        simp only [Act.put, List.setIfInBounds_toArray, List.set_cons_zero, List.set_cons_succ]
        clear hS 
        obtain ⟨x, hK, q, a2, c2, hS9, hI9⟩ := hC9.2.2.2.1 rfl
        have G9 := hidden (hC9.1 rfl)
        have R9 := hidden hC9.2.2.2.2.2.1
        have Q9 := hidden hC9.2.2.2.2.2.2.1
        have BW9 := hidden hC9.2.2.2.2.2.2.2.1
        have HS9 := hidden hS9
        have HI9 := hidden hI9
        have Z9 : Hid (B ≤ w9.heap.size) := Nat.le_trans HB5.out hC9.2.2.2.2.2.2.2.2
        have FF := hidden (HFS2.out x q hK)
        clear hC9 hS9 hI9 hK
        go_wp2
        go_roundg (f2 + 1)
        case measure => omega
        case rel => exact ⟨j2, ok2, L ++ [(x, q)], a2, c2, hj2, fun _ => by simp; omega, by simp; omega, by omega, FF.out, G9.out, by rw [List.length_append]; exact HS9.out, by rw [List.length_append]; exact HI9.out, R9.out, Q9.out, BW9.out, Z9.out⟩
    · have HCL : ok = true → (nthT ts j).text = [125] := fun e => Classical.byContradiction fun h => hon ⟨e, h⟩
      have HFO := hidden (HFAR.out.fin (fun e => by have h1 := HLg.out e; have h2 := (HFAR.out.on e).2.1; omega) HCL)
      have HSF : Hid (∀ b5 j5, Follows ok j (textR ts [125]) () b5 j5 → (b5 = true → sketchR ts = if (nthT ts j5).sort = 0 then (some ⟨nam, L.map Prod.fst⟩, j5 + 1) else (none, j5)) ∧ (b5 = false → sketchR ts = (none, j5))) := fun b5 j5 h5 => sketch_follows F1 F2 F3 HFO.out h5
      have HIS : Hid (ok = true → ∀ w, Rdr P (.slice at0 ts.length ct0) ts j true w → Calls Tryz.prog 56 #[.pointer (some ⟨P, 0, none⟩), .int .u8 3, .string ⟨#[125]⟩] w fun e w' => e = .returned (.bool true) ∧ Below w.heap.size w w') := fun e w h1 => by
        have := HIC.out w j h1 hj
        rw [decide_eq_true (HCL e)] at this
        exact this
      clear HCL hon HFAR HFO HLg hLg2
      have HEXIT : Hid (∀ wa, RGo P (.slice at0 ts.length ct0) ts j ok w1 wa → Blk 52 S wa #[.string (str nam), .slice a L.length c] → Its_k B wa (.slice a L.length c) L → Blk 52 W.heap.size wa #[.string ⟨#[]⟩, .slice none 0 0] → Blk 33 (W.heap.size + 1) wa #[.int .i64 0, .int .i64 0] → Below W.heap.size W wa → True) := fun _ _ _ _ _ _ _ => trivial
      clear HEXIT
      have key0 : ok = false ∨ ok = true := by cases ok <;> simp
      rcases key0 with rfl | rfl
      case' inl =>
        go_upto_region 12 with (go_at_call 54; (with_reducible refine (HMC.out _ _ _ GO.out.par hj).mono ?_); rintro e w6 ⟨rfl, b5, j5, F5, hg, hj5⟩; have G6 := hidden (GO.out.trans hg); have S6 := hidden (SO.out.grown hg.grown (fun e => HPS.out (Option.some.inj e))); have R6 := hidden (RO.out.grown hg.grown (fun e => HRP.out (Option.some.inj e))); have Q6 := hidden (QO.out.grown hg.grown (fun e => HQP.out (Option.some.inj e))); have I6 := hidden (IO.out.grown hg.grown HPB.out); have BW6 := hidden (grown_below BO.out hg.grown (fun k e => by cases e; exact HWP.out) BO.out.size); have k62 := G6.out.par.c2; have k60 := G6.out.par.c0; have k61 := G6.out.par.c1; have SF := hidden (HSF.out _ _ F5); clear hg)
      case' inr =>
        have HS9 := hidden (HIS.out rfl)
        go_upto_region 12 with (first
          | (go_at_call 54; (with_reducible refine (HMC.out _ _ _ G5.out.par hj).mono ?_); rintro e w6 ⟨rfl, b5, j5, F5, hg, hj5⟩; have G6 := hidden (G5.out.trans hg); have S6 := hidden (S5.out.grown hg.grown (fun e => HPS.out (Option.some.inj e))); have R6 := hidden (R5.out.grown hg.grown (fun e => HRP.out (Option.some.inj e))); have Q6 := hidden (Q5.out.grown hg.grown (fun e => HQP.out (Option.some.inj e))); have I6 := hidden (I5.out.grown hg.grown HPB.out); have BW6 := hidden (grown_below BW5.out hg.grown (fun k e => by cases e; exact HWP.out) BW5.out.size); have k62 := G6.out.par.c2; have k60 := G6.out.par.c0; have k61 := G6.out.par.c1; have SF := hidden (HSF.out _ _ F5); clear hg)
          | (go_at_call 56; (with_reducible refine (HS9.out _ GO.out.par).mono ?_); rintro e w5 ⟨rfl, hb⟩; have G5 := hidden (GO.out.later hb); have S5 := hidden (SO.out.below hb); have R5 := hidden (RO.out.below hb); have Q5 := hidden (QO.out.below hb); have I5 := hidden (IO.out.below hb); have BW5 := hidden (BO.out.trans (hb.mono BO.out.size)); clear hb))
      all_goals
        skip
        obtain ⟨g, cap, he, -, -, hcc⟩ := G6.out.par.row
        have he2 : at0 = some ⟨g, 0, none⟩ := by injection he
        subst he2
        have t0 := (hcc j5 hj5).c0
        have T3 := hidden (hcc j5 hj5).c3
        have hjI : (j5 : Int) < (ts.length : Int) := by omega
        have hlI : (ts.length : Int) ≤ 2000000 := by have := HLEN.out; omega
        clear hcc he
        by_cases hfin : b5 = true ∧ (nthT ts j5).sort = 0
        · obtain ⟨rfl, hs⟩ := hfin
          have HSK := hidden ((SF.out.1 rfl).trans (if_pos hs))
          rw [hs] at t0
          obtain ⟨s0, s1, -, -⟩ := S6.out.two
          obtain ⟨r0, r1, rf0, rf1⟩ := R6.out.two
          obtain ⟨q0, q1, qf0, qf1⟩ := ((Q6.out.other (m := W.heap.size) (k := 0) (by omega) (.string (str nam))).other (m := W.heap.size) (k := 1) (by omega) (.slice a L.length c)).two
          have Z1 := hidden (((R6.out.set2 (.string (str nam)) (.slice a L.length c)).other (m := W.heap.size + 1) (k := 0) (by omega) (.int .i64 0)).other (m := W.heap.size + 1) (k := 1) (by omega) (.int .i64 0))
          have Z2 := hidden (((Q6.out.other (m := W.heap.size) (k := 0) (by omega) (.string (str nam))).other (m := W.heap.size) (k := 1) (by omega) (.slice a L.length c)).set2 (.int .i64 0) (.int .i64 0))
          clear hs T3
          go_wp2
          obtain ⟨k0, k1, -, -⟩ := Z1.out.two
          obtain ⟨k2', k3, -, -⟩ := Z2.out.two
          refine bodyPost_ret (v := .tuple #[.agg #[.string (str nam), .slice a L.length c], .agg #[.int .i64 0, .int .i64 0]]) (by simp [results, Tryz.results25, go_sem, k0, k1, k2', k3]) rfl (HR.out _ _ ⟨Or.inr (Or.inr ⟨trivial, ⟨nam, L.map Prod.fst⟩, j5 + 1, a, c, L, HSK.out, by simp, rfl, ?_⟩), ?_⟩)
          · show Its_k _ _ (.slice a (L.map Prod.fst).length c) L
            rw [List.length_map]
            exact ((((I6.out.put HRB.out).put HRB.out).put HQB.out).put HQB.out).mono HWB.out
          · exact (((BW6.out.setCell (p := ⟨W.heap.size, 0, none⟩) (Nat.le_refl _) _).setCell (p := ⟨W.heap.size, 1, none⟩) (Nat.le_refl _) _).setCell (p := ⟨W.heap.size + 1, 0, none⟩) (Nat.le_succ _) _).setCell (p := ⟨W.heap.size + 1, 1, none⟩) (Nat.le_succ _) _
        · have HSK : Hid (sketchR ts = (none, j5)) := by
            show _ = _
            cases b5 with
            | false => exact SF.out.2 rfl
            | true => exact (SF.out.1 rfl).trans (if_neg fun h => hfin ⟨rfl, h⟩)
          have hPL : Hid (Rdr P (.slice (some ⟨g, 0, none⟩) ts.length ct0) ts j5 b5 w6) := G6.out.par
          have HW13 : Hid (b5 = true → decide ((nthT ts j5).sort = 0) = false ∧ ((nthT ts j5).sort == 0) = false) := fun e => ⟨decide_eq_false fun h => hfin ⟨e, h⟩, by simpa using fun h => hfin ⟨e, h⟩⟩
          have HGV : Hid (g ≠ W.heap.size ∧ g ≠ W.heap.size + 1) := ⟨fun e => HVR.out.1.1 (by rw [e]; rfl), fun e => HVR.out.2.1 (by rw [e]; rfl)⟩
          have key : b5 = false ∨ b5 = true := by cases b5 <;> simp
          rcases key with hb5 | hb5
          case' inl =>
            rw [hb5] at k62
            go_upto_region 13 with fail
          case' inr =>
            rw [hb5] at k62
            obtain ⟨z1, z2⟩ := HW13.out hb5
            generalize (nthT ts j5).sort = so at *
            go_upto_region 13 with fail
          all_goals
            skip
            generalize hPP : (nthT ts j5).place = pp at *
            refine wp_region_gen [9, 10] (fun d i u z => match i with
                | 0 => z = .agg #[.string ⟨#[]⟩, .slice none 0 0]
                | 1 => z = .pointer (some ⟨P, 0, none⟩)
                | 2 => z = .slice (some ⟨g, 0, none⟩) ts.length ct0
                | 3 => z = .pointer (some ⟨P, 1, none⟩)
                | 4 => z = .int .i64 (j5 : Int)
                | 5 => z = .pointer (some ⟨g, j5 * 4, none⟩)
                | 6 => z = .pointer (some ⟨g, j5 * 4 + 3, none⟩)
                | 7 => z = .int .i64 pp
                | 8 => z = .agg #[.int .i64 50, .int .i64 pp]
                | 9 => True
                | 10 => True
                | _ => True) (fun d u => Rdr P (.slice (some ⟨g, 0, none⟩) ts.length ct0) ts j5 b5 u ∧ Blk 52 W.heap.size u #[.string ⟨#[]⟩, .slice none 0 0] ∧ (d 10 = true → Blk 33 (W.heap.size + 1) u #[.int .i64 50, .int .i64 pp]) ∧ (d 10 = false → Blk 33 (W.heap.size + 1) u #[.int .i64 0, .int .i64 0]) ∧ u.cell? ⟨g, j5 * 4 + 3, none⟩ = some (.int .i64 pp) ∧ Below W.heap.size W u) (by kernel_rfl) (by kernel_rfl) (by kernel_rfl) ?_ ?_ ?_ ?_ ?_ ?_ (by kernel_rfl)
            · intro d i w v w' h hb
              match i, h with
              | 0, h => exact h
              | 1, h => exact h
              | 2, h => exact h
              | 3, h => exact h
              | 4, h => exact h
              | 5, h => exact h
              | 6, h => exact h
              | 7, h => exact h
              | 8, h => exact h
              | 9, h => exact h
              | 10, h => exact h
              | _ + 11, _ => trivial
            · intro d u u' h hb
              exact ⟨h.1.below hb, h.2.1.below hb, fun e => (h.2.2.1 e).below hb, fun e => (h.2.2.2.1 e).below hb, cell_keep_k hb h.2.2.2.2.1, h.2.2.2.2.2.trans (hb.mono h.2.2.2.2.2.size)⟩
            · exact ⟨hPL.out, R6.out, fun h => absurd h (by decide), fun _ => Q6.out, T3.out, BW6.out⟩
            · intro d i o ρ w' hm ho hf hg hC hcs hfs hfr hdep
              match i, hm, ho, hf, hg, hfr, hdep with
              | 0, _, ho, hf, hg, hfr, hdep =>
                simp only [gTA, gCZ, gSI] at ho
                subst ho
                refine ⟨fun _ => ?_, fun hw => absurd (show true = false from hw) (by decide)⟩
                simp [go_sem]
                exact ⟨Below.refl _ _, rfl⟩
              | 1, _, ho, hf, hg, hfr, hdep =>
                simp only [gTA, gCZ, gCS, gSI] at ho
                subst ho
                refine ⟨fun _ => ?_, fun hw => absurd (show true = false from hw) (by decide)⟩
                have tq : ρ (.tmp 7) = .pointer (some ⟨P, 0, none⟩) := hfr 7 (by kernel_rfl)
                simp [go_sem, tq]
                exact ⟨Below.refl _ _, rfl⟩
              | 2, _, ho, hf, hg, hfr, hdep =>
                simp only [gTA, gCZ, gCS, gSI] at ho
                subst ho
                refine ⟨fun _ => ?_, fun hw => absurd (show true = false from hw) (by decide)⟩
                have c0 := hC.1.c0
                have d0 : ρ (.tmp 51) = .pointer (some ⟨P, 0, none⟩) := hdep 1 51 (by kernel_rfl) (by kernel_rfl)
                simp [go_sem, d0, c0]
                exact ⟨Below.refl _ _, rfl⟩
              | 3, _, ho, hf, hg, hfr, hdep =>
                simp only [gTA, gCZ, gCS, gSI] at ho
                subst ho
                refine ⟨fun _ => ?_, fun hw => absurd (show true = false from hw) (by decide)⟩
                have tq : ρ (.tmp 7) = .pointer (some ⟨P, 0, none⟩) := hfr 7 (by kernel_rfl)
                simp [go_sem, tq]
                exact ⟨Below.refl _ _, rfl⟩
              | 4, _, ho, hf, hg, hfr, hdep =>
                simp only [gTA, gCZ, gCS, gSI] at ho
                subst ho
                refine ⟨fun _ => ?_, fun hw => absurd (show true = false from hw) (by decide)⟩
                have c1 := hC.1.c1
                have d0 : ρ (.tmp 53) = .pointer (some ⟨P, 1, none⟩) := hdep 3 53 (by kernel_rfl) (by kernel_rfl)
                simp [go_sem, d0, c1]
                exact ⟨Below.refl _ _, rfl⟩
              | 5, _, ho, hf, hg, hfr, hdep =>
                simp only [gTA, gCZ, gCS, gSI] at ho
                subst ho
                refine ⟨fun _ => ?_, fun hw => absurd (show true = false from hw) (by decide)⟩
                have d0 : ρ (.tmp 52) = .slice (some ⟨g, 0, none⟩) ts.length ct0 := hdep 2 52 (by kernel_rfl) (by kernel_rfl)
                have d1 : ρ (.tmp 54) = .int .i64 (j5 : Int) := hdep 4 54 (by kernel_rfl) (by kernel_rfl)
                simp [go_sem, d0, d1, hj5]
                exact ⟨Below.refl _ _, rfl⟩
              | 6, _, ho, hf, hg, hfr, hdep =>
                simp only [gTA, gCZ, gCS, gSI] at ho
                subst ho
                refine ⟨fun _ => ?_, fun hw => absurd (show true = false from hw) (by decide)⟩
                have d0 : ρ (.tmp 55) = .pointer (some ⟨g, j5 * 4, none⟩) := hdep 5 55 (by kernel_rfl) (by kernel_rfl)
                simp [go_sem, d0]
                exact ⟨Below.refl _ _, rfl⟩
              | 7, _, ho, hf, hg, hfr, hdep =>
                simp only [gTA, gCZ, gCS, gSI] at ho
                subst ho
                refine ⟨fun _ => ?_, fun hw => absurd (show true = false from hw) (by decide)⟩
                have c3 := hC.2.2.2.2.1
                have d0 : ρ (.tmp 56) = .pointer (some ⟨g, j5 * 4 + 3, none⟩) := hdep 6 56 (by kernel_rfl) (by kernel_rfl)
                simp [go_sem, d0, c3]
                exact ⟨Below.refl _ _, rfl⟩
              | 8, _, ho, hf, hg, hfr, hdep =>
                simp only [gTA, gCZ, gCS, gSI] at ho
                subst ho
                refine ⟨fun _ => ?_, fun hw => absurd (show true = false from hw) (by decide)⟩
                have d0 : ρ (.tmp 57) = .int .i64 pp := hdep 7 57 (by kernel_rfl) (by kernel_rfl)
                simp [go_sem, d0, hcs]
                exact ⟨Below.refl _ _, rfl⟩
              | 9, hm, _, _, _, _, _ => exact absurd hm (by decide)
              | 10, hm, _, _, _, _, _ => exact absurd hm (by decide)
              | n + 11, _, ho, _, _, _, _ => simp at ho
            · intro d i o ρ w' hm ho h0 hf hg hC hcs hfs hfr hdep
              match i, hm, ho, h0, hf, hg, hfr, hdep with
              | 0, hm, _, _, _, _, _, _ => exact absurd hm (by decide)
              | 1, hm, _, _, _, _, _, _ => exact absurd hm (by decide)
              | 2, hm, _, _, _, _, _, _ => exact absurd hm (by decide)
              | 3, hm, _, _, _, _, _, _ => exact absurd hm (by decide)
              | 4, hm, _, _, _, _, _, _ => exact absurd hm (by decide)
              | 5, hm, _, _, _, _, _, _ => exact absurd hm (by decide)
              | 6, hm, _, _, _, _, _, _ => exact absurd hm (by decide)
              | 7, hm, _, _, _, _, _, _ => exact absurd hm (by decide)
              | 8, hm, _, _, _, _, _, _ => exact absurd hm (by decide)
              | 9, _, ho, h0, hf, hg, hfr, hdep =>
                simp only [gTA, gCZ, gCS, gSI] at ho
                subst ho
                refine ⟨rfl, ?_⟩
                have tq : ρ (.tmp 2) = .pointer (some ⟨W.heap.size, 0, none⟩) := hfr 2 (by kernel_rfl)
                have t0 : ρ (.tmp 50) = .agg #[.string ⟨#[]⟩, .slice none 0 0] := hdep 0 50 (by kernel_rfl) (by kernel_rfl)
                obtain ⟨c0, c1, f0, f1⟩ := hC.2.1.two
                simp [go_sem, tq, t0, c0, c1, f0, f1]
                exact ⟨(hC.1.other HVR.out.1 _).other HVR.out.1 _, hC.2.1.set2 _ _, fun h => ((hC.2.2.1 (by simpa [doneAt] using h)).other (by omega) _).other (by omega) _, fun h => ((hC.2.2.2.1 (by simpa [doneAt] using h)).other (by omega) _).other (by omega) _, cell_oth (cell_oth hC.2.2.2.2.1 HGV.out.1 _ _) HGV.out.1 _ _, (hC.2.2.2.2.2.setCell (p := ⟨W.heap.size, 0, none⟩) (Nat.le_refl _) _).setCell (p := ⟨W.heap.size, 1, none⟩) (Nat.le_refl _) _⟩
              | 10, _, ho, h0, hf, hg, hfr, hdep =>
                simp only [gTA, gCZ, gCS, gSI] at ho
                subst ho
                refine ⟨rfl, ?_⟩
                have tq : ρ (.tmp 3) = .pointer (some ⟨W.heap.size + 1, 0, none⟩) := hfr 3 (by kernel_rfl)
                have t0 : ρ (.tmp 58) = .agg #[.int .i64 50, .int .i64 pp] := hdep 8 58 (by kernel_rfl) (by kernel_rfl)
                have hF := hC.2.2.2.1 h0
                obtain ⟨c0, c1, f0, f1⟩ := hF.two
                simp [go_sem, tq, t0, c0, c1, f0, f1]
                exact ⟨(hC.1.other HVR.out.2 _).other HVR.out.2 _, (hC.2.1.other (by omega) _).other (by omega) _, fun _ => hF.set2 _ _, fun h => absurd h (by simp [doneAt]), cell_oth (cell_oth hC.2.2.2.2.1 HGV.out.2 _ _) HGV.out.2 _ _, (hC.2.2.2.2.2.setCell (p := ⟨W.heap.size + 1, 0, none⟩) (Nat.le_succ _) _).setCell (p := ⟨W.heap.size + 1, 1, none⟩) (Nat.le_succ _) _⟩
              | n + 11, _, ho, _, _, _, _, _ => simp at ho
            · intro V w9 hC9 hS
              simp only [puts, put_none]
              simp only [Act.put, List.setIfInBounds_toArray, List.set_cons_zero, List.set_cons_succ]
              clear hS 
              go_wp2
              obtain ⟨k0, k1, -, -⟩ := hC9.2.1.two
              obtain ⟨k2', k3, -, -⟩ := (hC9.2.2.1 rfl).two
              exact bodyPost_ret (v := .tuple #[.agg #[.string ⟨#[]⟩, .slice none 0 0], .agg #[.int .i64 50, .int .i64 pp]]) (by simp [results, Tryz.results25, go_sem, k0, k1, k2', k3]) rfl (HR.out _ _ ⟨Or.inr (Or.inl ⟨trivial, j5, HSK.out, by rw [hPP]⟩), hC9.2.2.2.2.2⟩)
theorem rparse_any (l : List UInt8) (W : World) : Calls Tryz.prog 25 #[.string (str l)] W (ParseEnd W l) := by
  by_cases h : (textG l).err = 0
  · exact rparse_good l W h
  · exact rparse_bad l W h
end Go.Proofs.YtolpelfdhcccnaaGreatDoor
