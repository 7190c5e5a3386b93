/- Texts of one chain, laid one behind the other. -/
import Derived.Test.YthgblljokonejaaGreatDoorChain31
/- The walk through the statement SketchAgain. -/
namespace Go.Proofs.YthgblljokonejaaGreatDoor
open Go.ChangeShapes Go.WideShapes Go.ChangeAt Go.RowKit

theorem formX_txt (nm : List UInt8) (xs : List Itm) : txtP (formQ nm xs) = formX nm xs := by
  have h := txt_form nm (xs.map fun x => (x, Value.slice none 0 0))
  rw [form_items, List.map_map, show ((fun x : Itm × Value => x.1) ∘ fun x : Itm => (x, Value.slice none 0 0)) = id from rfl, List.map_id] at h
  exact h
theorem text_items {l : List UInt8} {s : Skt} {j : Nat} (h : (textG l).err = 0) (hs : sketchR (textG l).toks = (some s, j)) : s.items.length ≤ 2000000 := by
  obtain ⟨hl, hL⟩ := text_laid h
  obtain ⟨⟨r, hr⟩, -⟩ := took_sketch (laid_fine _ _ hL (text_ended h)) hs
  have h1 := congrArg List.length hr
  rw [List.length_map, List.length_append] at h1
  have h2 := items_len s.items
  have h3 : (s.items.flatMap itemU).length ≤ (formU s.name s.items).length := by
    unfold formU
    simp only [List.length_cons, List.length_append]
    omega
  have := text_len5 l
  omega
/-- A text's fault, if it is refused. -/
def faultO (l : List UInt8) : Int × Int := if (textG l).err ≠ 0 then ((textG l).err, (textG l).place) else match sketchR (textG l).toks with
  | (none, j) => (50, (nthT (textG l).toks j).place)
  | (some _, _) => (0, 0)
/-- A text that is refused. -/
theorem parse_no {l : List UInt8} (W : World) (hE : Env W) (h : (faultO l).1 ≠ 0) : Calls Tryz.prog 5 #[.string (str l)] W fun e w' => e = .returned (.tuple #[.agg #[.string ⟨#[]⟩, .slice none 0 0], .agg #[.int .i64 (faultO l).1, .int .i64 (faultO l).2]]) ∧ Below W.heap.size W w' := by
  refine (parse_any l W hE).mono ?_
  rintro e w' ⟨hh, hb⟩
  refine ⟨?_, hb⟩
  unfold faultO at h ⊢
  rcases hh with ⟨h1, rfl⟩ | ⟨h1, j, h2, rfl⟩ | ⟨h1, s, j, a, c, L, h2, -⟩
  · rw [if_pos h1]
  · rw [if_neg (by simp [h1]), h2]
  · rw [if_neg (by simp [h1]), h2] at h
    exact absurd rfl h
/-- A text that is read. -/
theorem parse_yes {l : List UInt8} {s : Skt} {j : Nat} (W : World) (hE : Env W) (h : (textG l).err = 0) (hs : sketchR (textG l).toks = (some s, j)) : Calls Tryz.prog 5 #[.string (str l)] W fun e w' => ∃ a c L, e = .returned (.tuple #[.agg #[.string (str s.name), .slice a s.items.length c], .agg #[.int .i64 0, .int .i64 0]]) ∧ s.items = L.map Prod.fst ∧ L.length = s.items.length ∧ ItR w' a L ∧ Its W.heap.size w' (.slice a s.items.length c) L ∧ Below W.heap.size W w' := by
  refine (parse_any l W hE).mono ?_
  rintro e w' ⟨hh, hb⟩
  rcases hh with ⟨h1, -⟩ | ⟨-, j2, h2, -⟩ | ⟨-, s2, j2, a, c, L, h2, rfl, h3, h4⟩
  · exact absurd h h1
  · rw [hs] at h2; cases h2
  · rw [hs] at h2
    injection h2 with h5 h6
    have h5 := Option.some.inj h5
    subst h5
    have hl : L.length = s.items.length := by rw [h3, List.length_map]
    refine ⟨a, c, L, rfl, h3, hl, ?_, h4, hb⟩
    rw [← hl] at h4
    exact h4.at5
theorem fault_cases (l : List UInt8) : (faultO l).1 ≠ 0 ∨ ((textG l).err = 0 ∧ ∃ s j, sketchR (textG l).toks = (some s, j)) := by
  unfold faultO
  by_cases h : (textG l).err ≠ 0
  · rw [if_pos h]; exact .inl h
  · rw [if_neg h]
    have h0 : (textG l).err = 0 := by omega
    rcases hs : sketchR (textG l).toks with ⟨_ | s, j⟩
    · exact .inl (show (50 : Int) ≠ 0 by decide)
    · exact .inr ⟨h0, s, j, rfl⟩
theorem fitsX_of {x : Itm} (h : Fits x) : FitsX x := ⟨fits_of h.frm.1, fits_of h.to.1, fun n hn => fits_of (h.nums n hn).1⟩
theorem Tab.on5 {w W : World} (h : Tab w.heap.size w) (hb : Below w.heap.size w W) : Tab W.heap.size W := fun w' h' => h w' (hb.trans (h'.mono hb.size))
end Go.Proofs.YthgblljokonejaaGreatDoor

/- Where an item and its places stand in a text. No program is called here. -/
namespace Go.Proofs.YthgblljokonejaaGreatDoor
open Go.RowKit

/-! ### Places -/
def Stand (l s : List UInt8) (p : Int) : Prop := ∃ q : Nat, p = (q : Int) ∧ q + s.length ≤ l.length ∧ (l.drop q).take s.length = s
theorem spelt_pos {t : Tok} (h : rightB t = true) : 0 < (spelt t).length := by
  unfold spelt
  rcases right_cases h with ⟨a, -, c⟩ | ⟨a, -⟩ | ⟨a, -, c⟩
  · rw [if_neg (by omega)]
    cases ht : t.text with
    | nil => rw [ht] at c; exact absurd c (by decide)
    | cons x r => simp
  · rw [if_pos a]; exact int_pos _
  · rw [if_neg (by omega)]
    cases ht : t.text with
    | nil => rw [ht] at c; exact absurd c (by decide)
    | cons x r => simp
theorem nth_succ (t : Tok) (r : List Tok) (k : Nat) : nthT (t :: r) (k + 1) = nthT r k := rfl
theorem laid_stand {l : List UInt8} : ∀ (ts : List Tok) (p : Nat), Laid l p ts → ∀ k, k < ts.length → Stand l (spelt (nthT ts k)) (nthT ts k).place ∧ (p : Int) ≤ (nthT ts k).place
  | [], p, h => by cases h
  | t :: r, p, h => by
    obtain ⟨q, h1, h2, h3, h4, -, h6⟩ := h
    intro k hk
    match k with
    | 0 => exact ⟨⟨q, h1, h3, h4⟩, by show (p : Int) ≤ t.place; rw [h1]; omega⟩
    | k + 1 =>
      rw [nth_succ]
      rcases h6 with ⟨-, rfl, -⟩ | ⟨-, -, h7⟩
      · simp at hk
      · have := laid_stand r _ h7 k (by simp at hk; omega)
        exact ⟨this.1, by have := this.2; omega⟩
theorem laid_rise {l : List UInt8} : ∀ (ts : List Tok) (p : Nat), Laid l p ts → ∀ k m, k < m → m < ts.length → (nthT ts k).place < (nthT ts m).place
  | [], p, h => by cases h
  | t :: r, p, h => by
    obtain ⟨q, h1, h2, h3, h4, -, h6⟩ := h
    intro k m hkm hm
    match m with
    | 0 => omega
    | m + 1 =>
      rcases h6 with ⟨-, rfl, -⟩ | ⟨-, hr, h7⟩
      · simp at hm
      · match k with
        | 0 =>
          have h8 := (laid_stand r _ h7 m (by simp at hm; omega)).2
          have h9 := spelt_pos hr
          rw [nth_succ]
          show t.place < _
          rw [h1]
          omega
        | k + 1 =>
          rw [nth_succ, nth_succ]
          exact laid_rise r _ h7 k m (by omega) (by simp at hm; omega)
theorem word_stand {l : List UInt8} {ts : List Tok} (hL : Laid l 0 ts) {k : Nat} (hk : k < ts.length) (h : (nthT ts k).sort ≠ 2) : Stand l (nthT ts k).text (nthT ts k).place := by
  have h1 := (laid_stand ts 0 hL k hk).1
  unfold spelt at h1
  rw [if_neg h] at h1
  exact h1
def lastP (x : Itm) : Int := max (max x.place x.frm.place) x.to.place
/-- An item's places, behind one. -/
def ItemOk (l : List UInt8) (p : Int) (x : Itm) : Prop :=
  p < x.place ∧ ((x.kind = 1 ∧ Stand l [97, 99, 116, 111, 114] x.place ∧ x.frm.place = 0 ∧ x.to.place = 0) ∨
   (x.kind = 2 ∧ Stand l [101, 100, 103, 101] x.place ∧ x.place < x.frm.place ∧ x.frm.place < x.to.place ∧ Stand l x.frm.name x.frm.place ∧ Stand l x.to.name x.to.place) ∨
   (x.kind = 3 ∧ Stand l [105, 110] x.place ∧ x.frm.place = 0 ∧ x.place < x.to.place ∧ Stand l x.to.name x.to.place) ∨
   (x.kind = 4 ∧ Stand l [111, 117, 116] x.place ∧ x.place < x.frm.place ∧ Stand l x.frm.name x.frm.place ∧ x.to.place = 0))
def PlacesOk (l : List UInt8) : Int → List Itm → Prop
  | _, [] => True
  | p, x :: r => ItemOk l p x ∧ PlacesOk l (lastP x) r
theorem text_tok {ts : List Tok} {x : List UInt8} {i j : Nat} {u : Unit} (h : textR ts x i = (some u, j)) : (nthT ts i).text = x ∧ j = i + 1 := by
  unfold textR at h
  split at h
  · rename_i h1
    injection h with h2 h3
    exact ⟨h1, h3.symm⟩
  · cases h
theorem place_tok {ts : List Tok} (hE : Ended ts) {p : Plc} {i j : Nat} (hi : i < ts.length) (h : placeR ts i = (some p, j)) : (nthT ts i).sort = 1 ∧ p.name = (nthT ts i).text ∧ p.place = (nthT ts i).place ∧ i + 2 < j ∧ j < ts.length := by
  unfold placeR at h
  obtain ⟨n, j1, h1, h⟩ := then_eq h
  obtain ⟨u, j2, h2, h⟩ := then_eq h
  obtain ⟨q, j3, h3, h⟩ := then_eq h
  have e1 := nameR_eq h1
  have e2 := (text_tok h2).2
  have e3 := numR_eq h3
  have hs : (nthT ts i).sort = 1 ∧ (nthT ts i).text = n := by
    unfold nameR at h1
    split at h1
    · rename_i h4
      injection h1 with h5 h6
      exact ⟨h4, Option.some.inj h5⟩
    · cases h1
  have hs3 : (nthT ts j2).sort = 2 := by
    unfold numR at h3
    split at h3
    · assumption
    · cases h3
  injection h with h4 h5
  have h4 := Option.some.inj h4
  subst h4
  subst h5
  have b1 := hE.sort_lt hi (by decide) hs.1
  have b2 := hE.text_lt (i := j1) (by omega) (by decide) (text_tok h2).1
  have b3 := hE.sort_lt (i := j2) (by omega) (by decide) hs3
  exact ⟨hs.1, hs.2.symm, rfl, by omega, by omega⟩
theorem item_places {l : List UInt8} {ts : List Tok} (hL : Laid l 0 ts) (hE : Ended ts) {x : Itm} {i j : Nat} {p : Int} (hi : i < ts.length) (hF : Fine ts) (hp : p < (nthT ts i).place) (h : itemR ts i = (some x, j)) : ItemOk l p x ∧ lastP x < (nthT ts j).place ∧ j < ts.length := by
  have hj := itemR_good h hE hi
  have rise := laid_rise ts 0 hL
  have word : ∀ k y, k < ts.length → (nthT ts k).text = y → y ≠ [] → Stand l y (nthT ts k).place := fun k y hk hy hn => by
    rw [← hy]
    refine word_stand hL hk (fun h2 => ?_)
    rcases hF k with ⟨h3, -⟩ | ⟨h3, -⟩
    · rcases right_cases h3 with ⟨a, -⟩ | ⟨-, b⟩ | ⟨a, -⟩
      · omega
      · exact hn (by rw [← hy]; exact b)
      · omega
    · omega
  have name : ∀ k, k < ts.length → (nthT ts k).sort = 1 → Stand l (nthT ts k).text (nthT ts k).place := fun k hk hs => word_stand hL hk (by omega)
  have zero : ∀ k, k < ts.length → 0 ≤ (nthT ts k).place := fun k hk => by have := (laid_stand ts 0 hL k hk).2; omega
  unfold itemR at h
  obtain ⟨y, j1, h1, h⟩ := then_eq h
  obtain ⟨u, j2, h2, h⟩ := then_eq h
  have e2 := (text_tok h2).2
  injection h with h3 h4
  have h3 := Option.some.inj h3
  subst h3
  subst h4
  have hij := bodyR_lt h1
  refine ⟨?_, ?_, hj⟩
  all_goals
    unfold bodyR at h1
    split at h1
  · rename_i ht
    unfold actorR at h1
    obtain ⟨u1, k1, g1, h1⟩ := then_eq h1
    obtain ⟨u2, k2, g2, h1⟩ := then_eq h1
    obtain ⟨u3, k3, g3, h1⟩ := then_eq h1
    obtain ⟨u4, k4, g4, h1⟩ := then_eq h1
    injection h1 with h5 h6
    have h5 := Option.some.inj h5
    subst h5
    exact ⟨hp, .inl ⟨rfl, word i _ hi ht (by decide), rfl, rfl⟩⟩
  · split at h1
    · rename_i ht
      unfold edgeR at h1
      obtain ⟨u1, k1, g1, h1⟩ := then_eq h1
      obtain ⟨f, k2, g2, h1⟩ := then_eq h1
      obtain ⟨u3, k3, g3, h1⟩ := then_eq h1
      obtain ⟨t, k4, g4, h1⟩ := then_eq h1
      obtain ⟨ns, k5, g5, h1⟩ := then_eq h1
      have q1 := (text_tok g1).2
      have q3 := (text_tok g3)
      have b1 := hE.text_lt hi (by decide) ht
      obtain ⟨m1, m2, m3, m4, m5⟩ := place_tok hE (i := k1) (by omega) g2
      have b3 := hE.text_lt (i := k2) (by omega) (by decide) q3.1
      obtain ⟨n1, n2, n3, n4, n5⟩ := place_tok hE (i := k3) (by omega) g4
      injection h1 with h5 h6
      have h5 := Option.some.inj h5
      subst h5
      refine ⟨hp, .inr (.inl ⟨rfl, word i _ hi ht (by decide), ?_, ?_, ?_, ?_⟩)⟩
      · show (nthT ts i).place < f.place
        rw [m3]; exact rise _ _ (by omega) (by omega)
      · show f.place < t.place
        rw [m3, n3]; exact rise _ _ (by omega) (by omega)
      · show Stand l f.name f.place
        rw [m2, m3]; exact name _ (by omega) m1
      · show Stand l t.name t.place
        rw [n2, n3]; exact name _ (by omega) n1
    · split at h1
      · rename_i ht
        unfold inR at h1
        obtain ⟨u1, k1, g1, h1⟩ := then_eq h1
        obtain ⟨n, k2, g2, h1⟩ := then_eq h1
        obtain ⟨u3, k3, g3, h1⟩ := then_eq h1
        obtain ⟨t, k4, g4, h1⟩ := then_eq h1
        have q1 := (text_tok g1).2
        have q2 := nameR_eq g2
        have q3 := (text_tok g3)
        have b1 := hE.text_lt hi (by decide) ht
        have b2 : k2 < ts.length := by have := nameR_in hE (i := k1) (by omega); rw [g2] at this; exact this
        have b3 := hE.text_lt (i := k2) b2 (by decide) q3.1
        obtain ⟨n1, n2, n3, n4, n5⟩ := place_tok hE (i := k3) (by omega) g4
        injection h1 with h5 h6
        have h5 := Option.some.inj h5
        subst h5
        refine ⟨hp, .inr (.inr (.inl ⟨rfl, word i _ hi ht (by decide), rfl, ?_, ?_⟩))⟩
        · show (nthT ts i).place < t.place
          rw [n3]; exact rise _ _ (by omega) (by omega)
        · show Stand l t.name t.place
          rw [n2, n3]; exact name _ (by omega) n1
      · unfold outR at h1
        obtain ⟨u1, k1, g1, h1⟩ := then_eq h1
        obtain ⟨f, k2, g2, h1⟩ := then_eq h1
        obtain ⟨u3, k3, g3, h1⟩ := then_eq h1
        obtain ⟨n, k4, g4, h1⟩ := then_eq h1
        have q1 := (text_tok g1)
        have b1 := hE.text_lt hi (by decide) q1.1
        obtain ⟨m1, m2, m3, m4, m5⟩ := place_tok hE (i := k1) (by omega) g2
        injection h1 with h5 h6
        have h5 := Option.some.inj h5
        subst h5
        refine ⟨hp, .inr (.inr (.inr ⟨rfl, word i _ hi q1.1 (by decide), ?_, ?_, rfl⟩))⟩
        · show (nthT ts i).place < f.place
          rw [m3]; exact rise _ _ (by omega) (by omega)
        · show Stand l f.name f.place
          rw [m2, m3]; exact name _ (by omega) m1
  · unfold actorR at h1
    obtain ⟨u1, k1, g1, h1⟩ := then_eq h1
    obtain ⟨u2, k2, g2, h1⟩ := then_eq h1
    obtain ⟨u3, k3, g3, h1⟩ := then_eq h1
    obtain ⟨u4, k4, g4, h1⟩ := then_eq h1
    injection h1 with h5 h6
    have h5 := Option.some.inj h5
    subst h5
    have r1 := rise i j2 (by omega) hj
    have r2 := zero i hi
    show max (max (nthT ts i).place 0) 0 < _
    omega
  · split at h1
    · rename_i ht
      unfold edgeR at h1
      obtain ⟨u1, k1, g1, h1⟩ := then_eq h1
      obtain ⟨f, k2, g2, h1⟩ := then_eq h1
      obtain ⟨u3, k3, g3, h1⟩ := then_eq h1
      obtain ⟨t, k4, g4, h1⟩ := then_eq h1
      obtain ⟨ns, k5, g5, h1⟩ := then_eq h1
      have q1 := (text_tok g1).2
      have q3 := (text_tok g3)
      have b1 := hE.text_lt hi (by decide) ht
      obtain ⟨m1, m2, m3, m4, m5⟩ := place_tok hE (i := k1) (by omega) g2
      have b3 := hE.text_lt (i := k2) (by omega) (by decide) q3.1
      obtain ⟨n1, n2, n3, n4, n5⟩ := place_tok hE (i := k3) (by omega) g4
      have q5 := withR_le g5
      injection h1 with h5 h6
      have h5 := Option.some.inj h5
      subst h5
      have r1 := rise i j2 (by omega) hj
      have r2 := rise k1 j2 (by omega) hj
      have r3 := rise k3 j2 (by omega) hj
      show max (max (nthT ts i).place f.place) t.place < _
      rw [m3, n3]
      omega
    · split at h1
      · rename_i ht
        unfold inR at h1
        obtain ⟨u1, k1, g1, h1⟩ := then_eq h1
        obtain ⟨n, k2, g2, h1⟩ := then_eq h1
        obtain ⟨u3, k3, g3, h1⟩ := then_eq h1
        obtain ⟨t, k4, g4, h1⟩ := then_eq h1
        have q1 := (text_tok g1).2
        have q2 := nameR_eq g2
        have q3 := (text_tok g3)
        have b1 := hE.text_lt hi (by decide) ht
        have b2 : k2 < ts.length := by have := nameR_in hE (i := k1) (by omega); rw [g2] at this; exact this
        have b3 := hE.text_lt (i := k2) b2 (by decide) q3.1
        obtain ⟨n1, n2, n3, n4, n5⟩ := place_tok hE (i := k3) (by omega) g4
        injection h1 with h5 h6
        have h5 := Option.some.inj h5
        subst h5
        have r1 := rise i j2 (by omega) hj
        have r3 := rise k3 j2 (by omega) hj
        have r4 := zero i hi
        show max (max (nthT ts i).place 0) t.place < _
        rw [n3]
        omega
      · unfold outR at h1
        obtain ⟨u1, k1, g1, h1⟩ := then_eq h1
        obtain ⟨f, k2, g2, h1⟩ := then_eq h1
        obtain ⟨u3, k3, g3, h1⟩ := then_eq h1
        obtain ⟨n, k4, g4, h1⟩ := then_eq h1
        have q1 := (text_tok g1)
        have q3 := (text_tok g3)
        have q4 := nameR_eq g4
        have b1 := hE.text_lt hi (by decide) q1.1
        obtain ⟨m1, m2, m3, m4, m5⟩ := place_tok hE (i := k1) (by omega) g2
        injection h1 with h5 h6
        have h5 := Option.some.inj h5
        subst h5
        have r1 := rise i j2 (by omega) hj
        have r2 := rise k1 j2 (by omega) hj
        have r4 := zero i hi
        show max (max (nthT ts i).place f.place) 0 < _
        rw [m3]
        omega
theorem items_places {l : List UInt8} {ts : List Tok} (hL : Laid l 0 ts) (hE : Ended ts) (hF : Fine ts) : ∀ (n i j : Nat) (xs : List Itm) (p : Int), i < ts.length → p < (nthT ts i).place → itemsF n ts i = (some xs, j) → PlacesOk l p xs
  | 0, i, j, xs, p, _, _, h => by unfold itemsF at h; cases h
  | n + 1, i, j, xs, p, hi, hp, h => by
    unfold itemsF at h
    split at h
    · injection h with h6 h7
      have h6 := Option.some.inj h6
      subst h6
      trivial
    · obtain ⟨x, j1, h1, h⟩ := then_eq h
      obtain ⟨ys, j2, h2, h⟩ := then_eq h
      obtain ⟨a, b, c⟩ := item_places hL hE hi hF hp h1
      injection h with h6 h7
      have h6 := Option.some.inj h6
      subst h6
      exact ⟨a, items_places hL hE hF n j1 j2 ys _ c b h2⟩
theorem sketch_places {l : List UInt8} {ts : List Tok} (hL : Laid l 0 ts) (hE : Ended ts) (hF : Fine ts) {s : Skt} {j : Nat} (h : sketchR ts = (some s, j)) : PlacesOk l 0 s.items := by
  unfold sketchR at h
  obtain ⟨u, j1, h1, h⟩ := then_eq h
  obtain ⟨n, j2, h2, h⟩ := then_eq h
  obtain ⟨u2, j3, h3, h⟩ := then_eq h
  obtain ⟨xs, j4, h4, h⟩ := then_eq h
  obtain ⟨u3, j5, h5, h⟩ := then_eq h
  have q1 := text_tok h1
  have q2 := nameR_eq h2
  have q3 := text_tok h3
  have b1 := hE.text_lt hE.pos (by decide) q1.1
  have b2 : j2 < ts.length := by have := nameR_in hE (i := j1) (by omega); rw [h2] at this; exact this
  have b3 := hE.text_lt (i := j2) b2 (by decide) q3.1
  have r := laid_rise ts 0 hL 0 j3 (by omega) (by omega)
  have z := (laid_stand ts 0 hL 0 hE.pos).2
  split at h
  · injection h with h6 h7
    have h6 := Option.some.inj h6
    subst h6
    exact items_places hL hE hF _ _ _ _ 0 (by omega) (by omega) h4
  · cases h
end Go.Proofs.YthgblljokonejaaGreatDoor

/- The same tokens with one blank between each two. No program is called here. -/
namespace Go.Proofs.YthgblljokonejaaGreatDoor
open Go.RowKit

/-! ### The same tokens, with one blank between each two -/
def gapL (n k : Nat) : List UInt8 := if k + 2 < n then [32] else []
def psF (ts : List Tok) : Nat → Nat → List Pc
  | _, 0 => []
  | i, m + 1 => (some (nthT ts i), gapL ts.length i) :: psF ts (i + 1) m
/-- What is written of the first k tokens. -/
def bT (ts : List Tok) (k : Nat) : List UInt8 := txtP (psF ts 0 k)
theorem psF_snoc (ts : List Tok) : ∀ (m i : Nat), psF ts i (m + 1) = psF ts i m ++ [(some (nthT ts (i + m)), gapL ts.length (i + m))]
  | 0, i => rfl
  | m + 1, i => by
    show (some (nthT ts i), gapL ts.length i) :: psF ts (i + 1) (m + 1) = _
    rw [psF_snoc ts m (i + 1), show i + 1 + m = i + (m + 1) by omega]
    rfl
theorem bT_succ (ts : List Tok) (k : Nat) : bT ts (k + 1) = bT ts k ++ spelt (nthT ts k) ++ gapL ts.length k := by
  unfold bT
  rw [psF_snoc, txtP_app, Nat.zero_add, List.append_assoc]
  show _ ++ (spelt (nthT ts k) ++ (gapL ts.length k ++ [])) = _
  rw [List.append_nil]
theorem gap_blank (n k : Nat) : ∀ c ∈ gapL n k, blankB (c.toNat : Int) = true := by
  unfold gapL
  split
  · exact blank_1
  · exact blank_0
theorem ok_psF {ts : List Tok} : ∀ (m i : Nat), i + m + 1 = ts.length → (∀ k, k + 1 < ts.length → rightB (nthT ts k) = true ∧ fits8 (nthT ts k).num = true) → okPc (psF ts i m)
  | 0, _, _, _ => trivial
  | m + 1, i, h, hr => by
    have h1 := hr i (by omega)
    refine ⟨⟨h1.1, h1.2, .inr ?_⟩, gap_blank _ _, ok_psF m (i + 1) (by omega) hr⟩
    unfold gapL
    split
    · rfl
    · have : m = 0 := by omega
      subst this
      rfl
theorem toks_psF (ts : List Tok) : ∀ (m i : Nat), i + m ≤ ts.length → toksP (psF ts i m) = (ts.drop i).take m
  | 0, i, _ => by rw [List.take_zero]; rfl
  | m + 1, i, h => by
    have hi : i < ts.length := by omega
    have e : nthT ts i = ts[i] := by unfold nthT; rw [List.getD_eq_getElem?_getD, List.getElem?_eq_getElem hi]; rfl
    rw [List.drop_eq_getElem_cons hi, List.take_succ_cons, ← toks_psF ts m (i + 1) (by omega), ← e]
    rfl
theorem want_place (ts : List Tok) : ∀ (m i p k : Nat), k ≤ m → (nthT (wantP p (psF ts i m)) k).place = ((p + (txtP (psF ts i k)).length : Nat) : Int)
  | m, i, p, 0, _ => by
    match m with
    | 0 => rfl
    | m + 1 => rfl
  | 0, _, _, k + 1, h => by omega
  | m + 1, i, p, k + 1, h => by
    show (nthT (wantP (p + (spelt (nthT ts i)).length + (gapL ts.length i).length) (psF ts (i + 1) m)) k).place = ((p + (spelt (nthT ts i) ++ (gapL ts.length i ++ txtP (psF ts (i + 1) k))).length : Nat) : Int)
    rw [want_place ts m (i + 1) _ k (by omega), List.length_append, List.length_append]
    congr 1
    omega
/-- The end of what is read: no number. -/
theorem all_last : ∀ (n p : Nat) (x : List UInt8), x.length ≤ n → (allL p x).err = 0 → ∃ us q, (allL p x).toks = us ++ [⟨0, [], 0, q⟩]
  | n, p, x, hn, he => by
    by_cases h1 : x.drop (skipN false x) = []
    · rw [allL_end h1]
      exact ⟨[], _, rfl⟩
    · by_cases h2 : (tokO (x.drop (skipN false x))).err = 0
      · obtain ⟨h3, h4, -⟩ := tok_some h2
        rw [List.length_drop] at h4
        rw [allL_tok h1 h2] at he ⊢
        unfold Got.cons at he ⊢
        split at he
        · rename_i h5
          rw [if_pos h5]
          match n, hn with
          | 0, hn => omega
          | n + 1, hn =>
            obtain ⟨us, q, h6⟩ := all_last n _ _ (by rw [List.length_drop]; omega) h5
            exact ⟨({ (tokO (x.drop (skipN false x))).tok with place := ((p + skipN false x : Nat) : Int) } : Tok) :: us, q, by simp only [h6, List.cons_append]⟩
        · rename_i h5
          exact absurd he h5
      · rw [allL_err h1 h2] at he
        exact absurd he h2
theorem loose_toks {ts us : List Tok} {q : Int} (h : ts = us ++ [⟨0, [], 0, q⟩]) : (wantP 0 (psF ts 0 (ts.length - 1))).map bareT = ts.map bareT := by
  have hl : ts.length - 1 = us.length := by rw [h]; simp
  rw [want_bare, toks_psF ts _ 0 (by omega), List.drop_zero, hl]
  conv => lhs; rw [h]
  rw [List.take_left]
  conv => rhs; rw [h]
  rw [List.map_append]
  rfl
theorem loose_read {ts us : List Tok} {q : Int} (h : ts = us ++ [⟨0, [], 0, q⟩]) (hr : ∀ k, k + 1 < ts.length → rightB (nthT ts k) = true ∧ fits8 (nthT ts k).num = true) (hl : (bT ts (ts.length - 1)).length ≤ 1048576) :
    (textG (bT ts (ts.length - 1))).err = 0 ∧ bareR bareS (sketchR (textG (bT ts (ts.length - 1))).toks) = bareR bareS (sketchR ts) ∧ ∀ k, k + 1 ≤ ts.length → (nthT (textG (bT ts (ts.length - 1))).toks k).place = ((bT ts k).length : Int) := by
  have hp : 0 < ts.length := by rw [h]; simp
  have h1 := read_pieces (psF ts 0 (ts.length - 1)) 0 (ok_psF _ 0 (by omega) hr)
  have h2 : textG (bT ts (ts.length - 1)) = ⟨wantP 0 (psF ts 0 (ts.length - 1)), 0, 0⟩ := by
    unfold textG; rw [if_neg (by omega)]; exact h1
  rw [h2]
  refine ⟨rfl, ?_, fun k hk => ?_⟩
  · simp only
    rw [← sketchR_bare, ← sketchR_bare, loose_toks h]
  · simp only
    rw [want_place ts _ 0 0 k (by omega), Nat.zero_add]
    rfl
theorem bT_end {ts us : List Tok} {q : Int} (h : ts = us ++ [⟨0, [], 0, q⟩]) : bT ts ts.length = bT ts (ts.length - 1) := by
  have hp : 0 < ts.length := by rw [h]; simp
  obtain ⟨n, hn⟩ : ∃ n, ts.length = n + 1 := ⟨ts.length - 1, by omega⟩
  have hu : us.length = n := by rw [h] at hn; simp at hn; exact hn
  have e : nthT ts n = ⟨0, [], 0, q⟩ := by
    unfold nthT
    rw [h, List.getD_eq_getElem?_getD, List.getElem?_append_right (by omega), hu, Nat.sub_self]
    rfl
  rw [hn, Nat.add_sub_cancel, bT_succ, e, hn]
  unfold gapL
  rw [if_neg (by omega), List.append_nil]
  show bT ts n ++ [] = _
  rw [List.append_nil]
end Go.Proofs.YthgblljokonejaaGreatDoor
