/- Texts of one chain, laid one behind the other. -/
import Derived.Test.YtlnodnkfagehgabDoorPartSketchAhead1
import Derived.Test.YtlnodnkfagehgabDoorPartSketchAhead4
import Derived.Test.YtlnodnkfagehgabDoorPartSketchAhead5
import Derived.Test.YtlnodnkfagehgabDoorPartSketchAhead6
/- The walk through the statement SketchAhead. (Written by tmpl/mkAhead.py.) -/
namespace Go.Proofs.YtlnodnkfagehgabDoor
open Go.ChangeShapes Go.WideShapes Go.ChangeAt Go.RowKit

theorem later3 {W w' : World} (hb : Below W.heap.size W w') {p : Addr} {x : Value} (h : W.cell? p = some x) : ∀ o, (w'.alloc o).cell? p = some x := fun o => cell_keep ((Below.refl _ _).alloc (Nat.le_refl _) o) (cell_keep hb h)
theorem text_errs (l : List UInt8) : (textG l).err ≠ 50 := by
  unfold textG
  split
  · decide
  · rcases all_errs l.length 0 l (Nat.le_refl _) with h | h | h | h <;> rw [h] <;> decide
/-- Whatever a text is: its fault is told. -/
theorem parse_fault (l : List UInt8) (W : World) (hE : Env W) : Calls Tryd.prog 5 #[.string (str l)] W fun e w' => ∃ nm a n c, e = .returned (.tuple #[.agg #[.string nm, .slice a n c], .agg #[.int .i64 (faultO l).1, .int .i64 (faultO l).2]]) ∧ Below W.heap.size W w' := by
  rcases fault_cases l with h | ⟨h, s, j, hs⟩
  · exact (parse_no W hE h).mono fun _ _ ⟨h1, h2⟩ => ⟨_, _, _, _, h1, h2⟩
  · have hf : faultO l = (0, 0) := by unfold faultO; rw [if_neg (by simp [h]), hs]
    rw [hf]
    exact (parse_yes W hE h hs).mono fun _ _ ⟨a, c, L, q1, _, _, _, _, q6⟩ => ⟨_, _, _, _, q1, q6⟩
set_option maxRecDepth 100000 in
set_option maxHeartbeats 4000000 in
theorem ahead_other (l mo : List UInt8) (w : World) (hE : Env w) (hT : Tab w.heap.size w) (h : (faultO l).1 ≠ 50) : Calls Tryd.prog 3 #[.string (str l), .string (str mo)] w fun e w' => e = .returned (.bool true) ∧ Below w.heap.size w w' := by
  have A1 := hidden (parse_fault l w hE)
  have AW : Hid (∀ W, Below w.heap.size w W → Calls Tryd.prog 6 #[] W fun e w' => e = .returned (.bool true) ∧ Below W.heap.size W w') := fun W hb => awake5 W (hE.below hb) (hT.on5 hb)
  generalize faultO l = F at *
  obtain ⟨er, pl⟩ := F
  simp only at h A1
  have x1 : (er != 50) = true := by simpa using h
  clear hE hT h
  go_enter Tryd.func3, Tryd.ntmps3
  go_wp2_with (first
    | (go_at_call 6; (with_reducible refine (AW.out _ (B2.out _ _)).mono ?_); rintro e w3 ⟨rfl, b3⟩; have B3 := hidden ((B2.out _ _).trans (b3.mono (B2.out _ _).size)); clear b3)
    | (go_at_call 5; (with_reducible refine A1.out.mono ?_); rintro e w1 ⟨nm, a, n, c, rfl, b1⟩; have B2 : Hid (∀ o1 o2, Below w.heap.size w ((w1.alloc o1).alloc o2)) := fun o1 o2 => b1.trans ((((Below.refl _ _).alloc (Nat.le_refl _) o1).alloc (by simp) o2).mono b1.size); clear b1))
  go_ret
  exact ⟨rfl, B3.out⟩
/-- What is wanted of a text whose token j is refused. -/
structure Bad (l : List UInt8) (ts : List Tok) (n j q : Nat) : Prop where
  text : textG l = ⟨ts, 0, 0⟩
  len : ts.length = n
  lt : j < n
  sk : sketchR ts = (none, j)
  place : (nthT ts j).place = (q : Int)
  room : q ≤ l.length
theorem bad_of {l : List UInt8} (h : (faultO l).1 = 50) : ∃ ts n j q, Bad l ts n j q := by
  have her : (textG l).err = 0 := by
    by_cases h1 : (textG l).err ≠ 0
    · unfold faultO at h
      rw [if_pos h1] at h
      exact absurd h (text_errs l)
    · omega
  have hz := text_zero her
  have ht : textG l = ⟨(textG l).toks, 0, 0⟩ := by
    have : ∀ G : Got, G.err = 0 → G.place = 0 → G = ⟨G.toks, 0, 0⟩ := fun G a b => by
      obtain ⟨x, y, z⟩ := G; simp only at a b; subst a; subst b; rfl
    exact this _ her hz
  rcases hs : sketchR (textG l).toks with ⟨_ | s, j⟩
  · have hj := sketch_none_in (text_ended her) hs
    obtain ⟨⟨q, h1, h2, -⟩, -⟩ := laid_stand _ _ (text_laid her).2 j hj
    exact ⟨_, _, j, q, ht, rfl, hj, hs, h1, by omega⟩
  · unfold faultO at h
    rw [if_neg (by simp [her]), hs] at h
    cases h
theorem Bad.fault {l ts n j q} (h : Bad l ts n j q) : faultO l = (50, (q : Int)) := by
  unfold faultO
  rw [if_neg (by rw [h.text]; simp), h.text]
  simp only [h.sk]
  rw [h.place]
theorem Bad.get {l ts n j q} (h : Bad l ts n j q) : ts[j]? = some (nthT ts j) := by
  have hj : j < ts.length := by rw [h.len]; exact h.lt
  rw [List.getElem?_eq_getElem hj]
  unfold nthT
  rw [List.getD_eq_getElem?_getD, List.getElem?_eq_getElem hj]; rfl
theorem Bad.all {l ts n j q} (h : Bad l ts n j q) : allL 0 l = ⟨ts, 0, 0⟩ ∧ l.length ≤ 1048576 := by
  have h1 := text_laid (l := l) (by rw [h.text])
  refine ⟨?_, h1.1⟩
  have := h.text
  unfold textG at this
  rw [if_neg (by omega)] at this
  exact this
/-- What stands ahead of it. -/
theorem Bad.front {l ts n j q} (h : Bad l ts n j q) : faultO (l.take q) = (0, 0) ∨ faultO (l.take q) = (50, (q : Int)) := by
  obtain ⟨h1, h2⟩ := h.all
  have h3 := all_ahead l.length 0 l (Nat.le_refl _) (by rw [h1]) j q (nthT ts j) (by rw [h1]; exact h.get) (by rw [h.place, Nat.zero_add])
  rw [h1, Nat.zero_add] at h3
  simp only at h3
  have h4 : textG (l.take q) = ⟨ts.take j ++ [⟨0, [], 0, (q : Int)⟩], 0, 0⟩ := by
    unfold textG; rw [if_neg (by rw [List.length_take]; omega)]; exact h3
  have hE := text_ended (l := l.take q) (by rw [h4])
  rw [h4] at hE
  simp only at hE
  have hj : j < ts.length := by rw [h.len]; exact h.lt
  unfold faultO
  rw [h4]
  simp only [ne_eq, not_true, if_false]
  rcases ahead_prefix hE hj h.sk (fun e s => sketch_none_in e s) with ⟨s, k, h5⟩ | h5
  · left; simp only [h5]
  · right
    simp only [h5]
    unfold nthT
    rw [List.getD_eq_getElem?_getD, List.getElem?_append_right (by rw [List.length_take]; omega), List.length_take, Nat.min_eq_left (by omega), Nat.sub_self]
    rfl
/-- What comes behind it. -/
theorem Bad.behind {l ts n j q} (h : Bad l ts n j q) (hs : (nthT ts j).sort ≠ 0) (mo : List UInt8) (hm : (mo.length : Int) ≤ 1000000 - (l.length : Int)) :
    ((textG (l.take q ++ spelt (nthT ts j) ++ [10] ++ mo)).err ≠ 0 ∧ faultO (l.take q ++ spelt (nthT ts j) ++ [10] ++ mo) = ((textG (l.take q ++ spelt (nthT ts j) ++ [10] ++ mo)).err, (textG (l.take q ++ spelt (nthT ts j) ++ [10] ++ mo)).place)) ∨
    ((textG (l.take q ++ spelt (nthT ts j) ++ [10] ++ mo)).err = 0 ∧ (textG (l.take q ++ spelt (nthT ts j) ++ [10] ++ mo)).place = 0 ∧ faultO (l.take q ++ spelt (nthT ts j) ++ [10] ++ mo) = (50, (q : Int))) := by
  obtain ⟨h1, h2⟩ := h.all
  have hj : j < ts.length := by rw [h.len]; exact h.lt
  obtain ⟨⟨q', p1, p2, p3⟩, -⟩ := laid_stand ts 0 (by have := (text_laid (l := l) (by rw [h.text])).2; rw [h.text] at this; exact this) j hj
  have eq : q' = q := by rw [h.place] at p1; omega
  subst eq
  have ht : l.take q' ++ spelt (nthT ts j) = l.take (q' + (spelt (nthT ts j)).length) := by rw [List.take_add, p3]
  have hc := all_cut l.length 0 l (Nat.le_refl _) (by rw [h1]) j q' (nthT ts j) (by rw [h1]; exact h.get) hs (by rw [h.place, Nat.zero_add])
  rw [h1] at hc
  simp only at hc
  rw [ht]
  have hlen : (l.take (q' + (spelt (nthT ts j)).length)).length = q' + (spelt (nthT ts j)).length := by rw [List.length_take]; omega
  generalize l.take (q' + (spelt (nthT ts j)).length) = x at *
  by_cases he : (textG (x ++ [10] ++ mo)).err ≠ 0
  · exact .inl ⟨he, by unfold faultO; rw [if_pos he]⟩
  · right
    have he0 : (textG (x ++ [10] ++ mo)).err = 0 := by omega
    refine ⟨he0, text_zero he0, ?_⟩
    have hl2 : (x ++ [10] ++ mo).length ≤ 1048576 := by
      rw [List.length_append, List.length_append, hlen]
      show q' + (spelt (nthT ts j)).length + 1 + mo.length ≤ _
      omega
    have e1 : textG (x ++ [10] ++ mo) = allL 0 (x ++ 10 :: mo) := by
      unfold textG
      rw [if_neg (by omega), List.append_assoc]; rfl
    rcases all_join mo x.length 0 x (Nat.le_refl _) with ⟨a, -⟩ | ⟨us, a, b⟩
    · rw [hc] at a; exact absurd rfl a
    · rw [hc] at a
      injection a with a1 a2 a3
      have a4 : ts.take (j + 1) = us := (List.append_inj' a1 rfl).1
      subst a4
      rw [e1, b] at he0
      unfold Got.app at b he0
      split at he0
      · rename_i hg
        rw [if_pos hg] at b
        have e2 : textG (x ++ [10] ++ mo) = ⟨ts.take (j + 1) ++ (allL (0 + x.length + 1) mo).toks, 0, 0⟩ := by rw [e1, b]
        generalize (allL (0 + x.length + 1) mo).toks = us at *
        have h5 := sketch_loc (ts' := ts.take (j + 1) ++ us) hj (by rw [List.length_append, List.length_take]; omega) (fun k hk => (nth_take_app hj hk).symm) h.sk
        unfold faultO
        rw [e2]
        simp only [ne_eq, not_true, if_false, h5]
        rw [nth_take_app hj (Nat.le_refl _), h.place]
      · rename_i hg
        exact absurd he0 hg
theorem last_place {l : List UInt8} : ∀ {ts : List Tok} {p : Nat} {q : Int}, Laid l p ts → Ended ts → (nthT ts (ts.length - 1)).place = q → q = (l.length : Int)
  | [], _, _, h, _, _ => by cases h
  | t :: r, p, q, h, hE, hq => by
    obtain ⟨k, h1, h2, h3, h4, -, h6⟩ := h
    rcases h6 with ⟨h0, rfl, h7⟩ | ⟨-, -, h7⟩
    · have ht : t.text = [] := hE.text
      have hs : (spelt t).length = 0 := by unfold spelt; rw [if_neg (by omega), ht]; rfl
      have hq : t.place = q := hq
      rw [← hq, h1]
      omega
    · have hr : 0 < r.length := by
        cases r with
        | nil => cases h7
        | cons a b => simp
      obtain ⟨m, hm⟩ : ∃ m, r.length = m + 1 := ⟨r.length - 1, by omega⟩
      have e : ∀ x : Nat, x = m → nthT (t :: r) (x + 1) = nthT r (r.length - 1) := fun x hx => by subst hx; rw [nth_succ, hm]; rfl
      have e2 : (t :: r).length - 1 = m + 1 := by rw [List.length_cons]; omega
      have hE2 : Ended r := by
        refine ⟨hr, ?_, ?_⟩
        · have := hE.sort; rw [e2, e m rfl] at this; exact this
        · have := hE.text; rw [e2, e m rfl] at this; exact this
      rw [e2, e m rfl] at hq
      exact last_place h7 hE2 hq
set_option maxRecDepth 100000 in
set_option maxHeartbeats 8000000 in
theorem ahead_bad_zero (l mo : List UInt8) (w : World) (hE : Env w) (hT : Tab w.heap.size w) (ts : List Tok) (n j q : Nat) (hb : Bad l ts n j q) (hfr : faultO (l.take q) = (0, 0)) : Calls Tryd.prog 3 #[.string (str l), .string (str mo)] w fun e w' => e = .returned (.bool true) ∧ Below w.heap.size w w' := by
  have her : (textG l).err = 0 := by rw [hb.text]
  have hEn := text_ended her
  obtain ⟨hll, hL⟩ := text_laid her
  have hlen := text_len5 l
  have hin := text_in64 l
  have hF := laid_fine _ _ hL hEn
  rw [hb.text] at hEn hL hlen hin hF
  simp only at hEn hL hlen hin hF
  have hne : ts ≠ [] := by intro e; have := hEn.pos; rw [e] at this; simp at this
  have A1 := hidden (parse_fault l w hE)
  rw [hb.fault] at A1
  simp only at A1
  have A2 : Hid (∀ W, Env W → Calls Tryd.prog 5 #[.string (str (l.take q))] W fun e w' => ∃ nm a n c, e = .returned (.tuple #[.agg #[.string nm, .slice a n c], .agg #[.int .i64 0, .int .i64 0]]) ∧ Below W.heap.size W w') := fun W hW => by
    have := parse_fault (l.take q) W hW
    rw [hfr] at this
    exact this
  have A0 : Hid (∀ W, Env W → Calls Tryd.prog 7 #[.string (str l)] W (ReadAt W ts n)) := fun W hW => all_at l ts n hb.text hb.len hne W hW
  have AW : Hid (∀ W, Below w.heap.size w W → Calls Tryd.prog 6 #[] W fun e w' => e = .returned (.bool true) ∧ Below W.heap.size W w') := fun W h => awake5 W (hE.below h) (hT.on5 h)
  have HE : Hid (∀ W, Below w.heap.size w W → Env W) := fun W h => hE.below h
  have HFT := hidden (fine_fits hin)
  have HSA : Hid (∀ i, i < n → ((nthT ts i).place = (nthT ts j).place ↔ i = j)) := fun i h1 => same_place hL (by rw [hb.len]; exact h1) (by rw [hb.len]; exact hb.lt)
  have HBD := hidden hb
  have HFN := hidden hF
  have hpl := hb.place
  have hjn := hb.lt
  have hql0 := hb.room
  have hqI : (q : Int) ≤ (l.length : Int) := by omega
  have hlI : (l.length : Int) ≤ 1048576 := by omega
  have hn2 : (n : Int) ≤ 2000000 := by have := hb.len; omega
  have HN := hidden hb.len
  have HEND : Hid ((nthT ts j).sort = 0 → (q : Int) = (l.length : Int)) := fun h0 => by
    have h1 : j = ts.length - 1 := by
      rcases Nat.lt_or_ge (j + 1) ts.length with h2 | h2
      · have h3 := (laid_right ts 0 hL j h2).1
        rcases right_cases h3 with ⟨a, -⟩ | ⟨a, -⟩ | ⟨a, -⟩ <;> omega
      · have := hb.len; omega
    exact last_place hL hEn (by rw [← h1]; exact hpl)
  have sl := str_size l
  have sM := str_size mo
  have HCUT := str_to l q
  clear hE hT hb her hEn hL hlen hin hF hne hll
  unfold ReadAt at A0
  go_enter Tryd.func3, Tryd.ntmps3
  go_wp2_with (first
    | (go_at_call 7; (with_reducible refine (A0.out _ (HE.out _ (B4.out _ _))).mono ?_); rintro e w5 ⟨g, off, cap, rfl, hat, -, b5⟩; have K5 := hidden hat; have Z5 : Hid (w5.cell? ⟨w1.heap.size + 1, 0, none⟩ = some (.int .i64 50) ∧ w5.cell? ⟨w1.heap.size + 1, 1, none⟩ = some (.int .i64 (q : Int))) := ⟨cell_keep b5 (y0 _ _), cell_keep b5 (y1 _ _)⟩; have B5 := hidden ((B4.out _ _).trans (b5.mono (B4.out _ _).size)); clear hat b5)
    | (go_at_call 5; (with_reducible refine (A2.out _ (HE.out _ (B2.out _ _))).mono ?_); rintro e w3 ⟨nm3, a3, n3, c3, rfl, b3⟩; have y0 : ∀ o1 o2, ((w3.alloc o1).alloc o2).cell? ⟨w1.heap.size + 1, 0, none⟩ = some (.int .i64 50) := later2 b3 (by simp); have y1 : ∀ o1 o2, ((w3.alloc o1).alloc o2).cell? ⟨w1.heap.size + 1, 1, none⟩ = some (.int .i64 (q : Int)) := later2 b3 (by simp); have B4 : Hid (∀ o1 o2, Below w.heap.size w ((w3.alloc o1).alloc o2)) := fun o1 o2 => by { have qq := (B2.out _ _).trans (b3.mono (B2.out _ _).size); exact qq.trans ((((Below.refl _ _).alloc (Nat.le_refl _) o1).alloc (by simp) o2).mono qq.size) }; clear b3)
    | (go_at_call 5; (with_reducible refine A1.out.mono ?_); rintro e w1 ⟨nm, a, n1, c, rfl, b1⟩; have B2 : Hid (∀ o1 o2, Below w.heap.size w ((w1.alloc o1).alloc o2)) := fun o1 o2 => b1.trans ((((Below.refl _ _).alloc (Nat.le_refl _) o1).alloc (by simp) o2).mono b1.size); clear b1))
  clear y0 y1
  have HB0 := hidden (B5.out.alloc B5.out.size (.cells #[.int .i64 0, .int .i64 0] 27))
  have HK0 := hidden (K5.out.below ((Below.refl w5.heap.size w5).alloc (Nat.le_refl _) (.cells #[.int .i64 0, .int .i64 0] 27)))
  have HZ0 : Hid ((w5.alloc (.cells #[.int .i64 0, .int .i64 0] 27)).cell? ⟨w1.heap.size + 1, 0, none⟩ = some (.int .i64 50) ∧ (w5.alloc (.cells #[.int .i64 0, .int .i64 0] 27)).cell? ⟨w1.heap.size + 1, 1, none⟩ = some (.int .i64 (q : Int))) := ⟨cell_keep ((Below.refl w5.heap.size w5).alloc (Nat.le_refl _) _) Z5.out.1, cell_keep ((Below.refl w5.heap.size w5).alloc (Nat.le_refl _) _) Z5.out.2⟩
  go_loopg [11] n (fun gk v wr => ∃ (i : Nat), i ≤ n ∧ gk = n - i ∧ v = .int .i64 (i : Int) ∧ (i ≤ j ∨ (nthT ts j).sort = 0) ∧ AtT wr (some ⟨g, off, none⟩) ts ∧ (wr.cell? ⟨w1.heap.size + 1, 0, none⟩ = some (.int .i64 50) ∧ wr.cell? ⟨w1.heap.size + 1, 1, none⟩ = some (.int .i64 (q : Int))) ∧ Below w.heap.size w wr)
  case atStart => exact ⟨0, Nat.zero_le _, rfl, rfl, .inl (Nat.zero_le _), HK0.out, HZ0.out, HB0.out⟩
  case round =>
    clear HB0 HK0 HZ0 K5 Z5 B5 B4 B2 A0 A1 A2
    obtain ⟨ix, hin, rfl, rfl, hor, hat, ⟨z0, z1⟩, hbe⟩ := hrel
    have HAT := hidden hat
    have HBE := hidden hbe
    have HZ := hidden (And.intro z0 z1)
    clear hat hbe
    by_cases hlt : ix < n
    · have hki : (ix : Int) < (n : Int) := by omega
      obtain ⟨c0, c1, c2, c3⟩ := HAT.out.at (k := ix) (by rw [HN.out]; exact hlt)
      have HKW : Hid (∀ m, AtT (wr.drewN m) (some ⟨g, off, none⟩) ts) := fun m => HAT.out.below (drew_below _ _)
      have HZW : Hid (∀ m, ((wr.drewN m).cell? ⟨w1.heap.size + 1, 0, none⟩ = some (.int .i64 50) ∧ (wr.drewN m).cell? ⟨w1.heap.size + 1, 1, none⟩ = some (.int .i64 (q : Int)))) := fun m => ⟨cell_keep (drew_below _ _) HZ.out.1, cell_keep (drew_below _ _) HZ.out.2⟩
      have HBW : Hid (∀ m, Below w.heap.size w (wr.drewN m)) := fun m => bdrew HBE.out m
      by_cases hij : ix = j
      · subst hij
        by_cases hso : (nthT ts ix).sort = 0
        · have HS0 := hidden hso
          rw [hpl] at c3
          rw [hso] at c0
          have x6 : ((q : Int) == (q : Int)) = true := by simp
          go_wp2
          go_quiet (fail)
          go_wp2
          go_roundg (n - (ix + 1))
          case measure => omega
          case rel => exact ⟨ix + 1, by omega, rfl, by go_num, .inr HS0.out, HKW.out _, HZW.out _, HBW.out _⟩
        · have x5 : ((nthT ts ix).sort != 0) = true := by simpa using hso
          have x6 : ((q : Int) == (q : Int)) = true := by simp
          rw [hpl] at c3
          have b2 : IntKind.i64.wrap (1000000 - (l.length : Int)) = 1000000 - (l.length : Int) := by rw [IntKind.wrap_i64]; omega
          by_cases hm : (mo.length : Int) > 1000000 - (l.length : Int)
          · go_wp2
            go_quiet (fail)
            go_wp2
            go_ret
            exact ⟨rfl, HBW.out _⟩
          · have hbh := HBD.out.behind hso mo (by omega)
            have HSP : Hid (∀ W, Calls Tryd.prog 8 #[.agg #[.int .u8 (nthT ts ix).sort, .string (str (nthT ts ix).text), .int .i64 (nthT ts ix).num, .int .i64 (q : Int)]] W fun e w' => e = .returned (.string (str (spelt (nthT ts ix)))) ∧ Below W.heap.size W w') := fun W => by
              have := spelt_any (nthT ts ix) W (HFT.out ix)
              rw [hpl] at this
              exact this
            have hs20 := fine_len HFN.out ix
            have A3 := hidden (fun W (hW : Env W) => all_two (l.take q ++ spelt (nthT ts ix) ++ [10] ++ mo) W hW)
            have A4 := hidden (fun W (hW : Env W) => parse_fault (l.take q ++ spelt (nthT ts ix) ++ [10] ++ mo) W hW)
            have hP : (l.take q).length ≤ l.length := by rw [List.length_take]; omega
            have hsn := hso
            clear hso
            generalize spelt (nthT ts ix) = S at *
            generalize l.take q = P at *
            generalize nthT ts ix = t at *
            obtain ⟨so, tx, nu, pl⟩ := t
            simp only at c0 c1 c2 c3 HSP x5
            have sP := str_size P
            have sS := str_size S
            have sPS := str_size (P ++ S)
            have s10 : (ByteArray.mk #[10]).size = 1 := rfl
            have sPT := str_size (P ++ S ++ [10])
            have j1 := str_app P S
            have j2 : str (P ++ S) ++ ByteArray.mk #[10] = str (P ++ S ++ [10]) := str_app (P ++ S) [10]
            have j3 := str_app (P ++ S ++ [10]) mo
            have m1 : ¬ (9223372036854775807 < P.length + S.length) := by omega
            have m2 : ¬ (9223372036854775807 < (P ++ S).length + 1) := by rw [List.length_append]; omega
            have m3 : ¬ (9223372036854775807 < (P ++ S ++ [10]).length + mo.length) := by rw [List.length_append, List.length_append]; show ¬ (_ < P.length + S.length + 1 + mo.length); omega
            generalize hY1 : P ++ S = Y1 at *
            generalize hY2 : Y1 ++ [10] = Y2 at *
            generalize hY3 : Y2 ++ mo = Y3 at *
            clear hY1 hY2 hY3
            have hql : q ≤ l.length := hql0
            go_wp2
            go_quiet (fail)
            go_wp2
            refine wp_region_said 13 (fun i u v => match i with
                | 0 => v = .string (str l)
                | 1 => v = .pointer (some ⟨w1.heap.size + 1, 1, none⟩)
                | 2 => v = .int .i64 (q : Int)
                | 3 => v = .string (str P)
                | 4 => v = .slice (some ⟨g, off, none⟩) n cap
                | 5 => v = .int .i64 (ix : Int)
                | 6 => v = .pointer (some ⟨g, off + ix * 4, none⟩)
                | 7 => v = .agg #[.int .u8 so, .string (str tx), .int .i64 nu, .int .i64 (q : Int)]
                | 8 => v = .string (str S)
                | 9 => v = .string (str Y1)
                | 10 => v = .string (str Y2)
                | 11 => v = .string (str mo)
                | 12 => v = .string (str Y3)
                | _ => True) (by kernel_rfl) (by kernel_rfl) (by kernel_rfl) (by kernel_rfl) ?_ ?_ ?_
            · intro i w v w' h hb
              match i, h with
              | 0, h => exact h
              | 1, h => exact h
              | 2, h => exact h
              | 3, h => exact h
              | 4, h => exact h
              | 5, h => exact h
              | 6, h => exact h
              | 7, h => exact h
              | 8, h => exact h
              | 9, h => exact h
              | 10, h => exact h
              | 11, h => exact h
              | 12, h => exact h
              | _ + 13, _ => trivial
            · intro i o ρ w' hi ho hb hc hf hfr hdep
              have LK : ∀ {a : Addr} {x : Value}, wr.cell? a = some x → w'.cell? a = some x := fun h => cell_keep hb (cell_keep (drew_below _ _) h)
              have k1 := LK HZ.out.2
              have f0 := LK c0
              have f1 := LK c1
              have f2 := LK c2
              have f3 := LK c3
              match i, hi with
              | 0, _ =>
                simp only [List.getElem?_toArray, List.getElem?_cons_zero, Option.some.injEq] at ho
                subst ho
                have ts : ρ (.tmp 0) = .string (str l) := hfr 0 (by kernel_rfl)
                simp [go_sem, ts]
                exact ⟨Below.refl _ _, rfl⟩
              | 1, _ =>
                simp only [List.getElem?_toArray, List.getElem?_cons_zero, List.getElem?_cons_succ, Option.some.injEq] at ho
                subst ho
                have ts : ρ (.tmp 6) = .pointer (some ⟨w1.heap.size + 1, 0, none⟩) := hfr 6 (by kernel_rfl)
                simp [go_sem, ts]
                exact ⟨Below.refl _ _, rfl⟩
              | 2, _ =>
                simp only [List.getElem?_toArray, List.getElem?_cons_zero, List.getElem?_cons_succ, Option.some.injEq] at ho
                subst ho
                have ts : ρ (.tmp 86) = .pointer (some ⟨w1.heap.size + 1, 1, none⟩) := hdep 1 86 (by kernel_rfl) (by kernel_rfl)
                simp [go_sem, ts, k1]
                exact ⟨Below.refl _ _, rfl⟩
              | 3, _ =>
                simp only [List.getElem?_toArray, List.getElem?_cons_zero, List.getElem?_cons_succ, Option.some.injEq] at ho
                subst ho
                have t1 : ρ (.tmp 85) = .string (str l) := hdep 0 85 (by kernel_rfl) (by kernel_rfl)
                have t2 : ρ (.tmp 87) = .int .i64 (q : Int) := hdep 2 87 (by kernel_rfl) (by kernel_rfl)
                simp [go_sem, t1, t2, sl, hql, HCUT]
                exact ⟨Below.refl _ _, rfl⟩
              | 4, _ =>
                simp only [List.getElem?_toArray, List.getElem?_cons_zero, List.getElem?_cons_succ, Option.some.injEq] at ho
                subst ho
                have ts : ρ (.tmp 9) = .slice (some ⟨g, off, none⟩) n cap := hfr 9 (by kernel_rfl)
                simp [go_sem, ts]
                exact ⟨Below.refl _ _, rfl⟩
              | 5, _ =>
                simp only [List.getElem?_toArray, List.getElem?_cons_zero, List.getElem?_cons_succ, Option.some.injEq] at ho
                subst ho
                have ts : ρ (.tmp 11) = .int .i64 (ix : Int) := hfr 11 (by kernel_rfl)
                simp [go_sem, ts]
                exact ⟨Below.refl _ _, rfl⟩
              | 6, _ =>
                simp only [List.getElem?_toArray, List.getElem?_cons_zero, List.getElem?_cons_succ, Option.some.injEq] at ho
                subst ho
                have t1 : ρ (.tmp 89) = .slice (some ⟨g, off, none⟩) n cap := hdep 4 89 (by kernel_rfl) (by kernel_rfl)
                have t2 : ρ (.tmp 90) = .int .i64 (ix : Int) := hdep 5 90 (by kernel_rfl) (by kernel_rfl)
                simp [go_sem, t1, t2, hki]
                exact ⟨Below.refl _ _, rfl⟩
              | 7, _ =>
                simp only [List.getElem?_toArray, List.getElem?_cons_zero, List.getElem?_cons_succ, Option.some.injEq] at ho
                subst ho
                have t1 : ρ (.tmp 91) = .pointer (some ⟨g, off + ix * 4, none⟩) := hdep 6 91 (by kernel_rfl) (by kernel_rfl)
                simp [go_sem, t1, f0, f1, f2, f3]
                exact ⟨Below.refl _ _, rfl⟩
              | 8, _ =>
                simp only [List.getElem?_toArray, List.getElem?_cons_zero, List.getElem?_cons_succ, Option.some.injEq] at ho
                subst ho
                have t1 : ρ (.tmp 92) = .agg #[.int .u8 so, .string (str tx), .int .i64 nu, .int .i64 (q : Int)] := hdep 7 92 (by kernel_rfl) (by kernel_rfl)
                simp [go_sem, t1, hf]
                exact ⟨rfl, (HSP.out w').mono fun e u h => ⟨_, h.1, h.2, rfl⟩⟩
              | 9, _ =>
                simp only [List.getElem?_toArray, List.getElem?_cons_zero, List.getElem?_cons_succ, Option.some.injEq] at ho
                subst ho
                have t1 : ρ (.tmp 88) = .string (str P) := hdep 3 88 (by kernel_rfl) (by kernel_rfl)
                have t2 : ρ (.tmp 93) = .string (str S) := hdep 8 93 (by kernel_rfl) (by kernel_rfl)
                simp [go_sem, t1, t2, sP, sS, j1, m1]
                exact ⟨Below.refl _ _, rfl⟩
              | 10, _ =>
                simp only [List.getElem?_toArray, List.getElem?_cons_zero, List.getElem?_cons_succ, Option.some.injEq] at ho
                subst ho
                have t1 : ρ (.tmp 94) = .string (str Y1) := hdep 9 94 (by kernel_rfl) (by kernel_rfl)
                simp [go_sem, t1, hc, sPS, s10, j2, m2]
                exact ⟨Below.refl _ _, rfl⟩
              | 11, _ =>
                simp only [List.getElem?_toArray, List.getElem?_cons_zero, List.getElem?_cons_succ, Option.some.injEq] at ho
                subst ho
                have ts : ρ (.tmp 1) = .string (str mo) := hfr 1 (by kernel_rfl)
                simp [go_sem, ts]
                exact ⟨Below.refl _ _, rfl⟩
              | 12, _ =>
                simp only [List.getElem?_toArray, List.getElem?_cons_zero, List.getElem?_cons_succ, Option.some.injEq] at ho
                subst ho
                have t1 : ρ (.tmp 95) = .string (str Y2) := hdep 10 95 (by kernel_rfl) (by kernel_rfl)
                have t2 : ρ (.tmp 96) = .string (str mo) := hdep 11 96 (by kernel_rfl) (by kernel_rfl)
                simp [go_sem, t1, t2, sPT, sM, j3, m3]
                exact ⟨Below.refl _ _, rfl⟩
            · intro V w9 q9 hS
              have e0 : V 0 = .string (str l) := hS 0 (by decide)
              have e1 : V 1 = .pointer (some ⟨w1.heap.size + 1, 1, none⟩) := hS 1 (by decide)
              have e2 : V 2 = .int .i64 (q : Int) := hS 2 (by decide)
              have e3 : V 3 = .string (str P) := hS 3 (by decide)
              have e4 : V 4 = .slice (some ⟨g, off, none⟩) n cap := hS 4 (by decide)
              have e5 : V 5 = .int .i64 (ix : Int) := hS 5 (by decide)
              have e6 : V 6 = .pointer (some ⟨g, off + ix * 4, none⟩) := hS 6 (by decide)
              have e7 : V 7 = .agg #[.int .u8 so, .string (str tx), .int .i64 nu, .int .i64 (q : Int)] := hS 7 (by decide)
              have e8 : V 8 = .string (str S) := hS 8 (by decide)
              have e9 : V 9 = .string (str Y1) := hS 9 (by decide)
              have e10 : V 10 = .string (str Y2) := hS 10 (by decide)
              have e11 : V 11 = .string (str mo) := hS 11 (by decide)
              have e12 : V 12 = .string (str Y3) := hS 12 (by decide)
              simp only [List.drop_succ_cons, List.drop_zero, List.take_succ_cons, List.take_zero, puts, e0, e1, e2, e3, e4, e5, e6, e7, e8, e9, e10, e11, e12]
              clear hS e0 e1 e2 e3 e4 e5 e6 e7 e8 e9 e10 e11 e12 V
              have B9 := hidden ((HBW.out _).trans (q9.mono (HBW.out _).size))
              have z9 : w9.cell? ⟨w1.heap.size + 1, 0, none⟩ = some (.int .i64 50) := cell_keep q9 (HZW.out _).1
              have z8 : w9.cell? ⟨w1.heap.size + 1, 1, none⟩ = some (.int .i64 (q : Int)) := cell_keep q9 (HZW.out _).2
              rcases hbh with ⟨he, hf⟩ | ⟨he, hp, hf⟩
              · rw [hf] at A4
                simp only at A4
                generalize (textG Y3).err = er at *
                generalize (textG Y3).place = pe at *
                have x7 : (er == 0) = false := by simpa using he
                have x8 : (er != 0) = true := by simpa using he
                have x9 : (er == er) = true := by simp
                have y9 : (pe == pe) = true := by simp
                clear he hf
                go_wp2_with (first
                  | (go_at_call 6; (with_reducible refine (AW.out _ (B12.out _ _)).mono ?_); rintro e w13 ⟨rfl, b13⟩; have F13 := hidden ((B12.out _ _).trans (b13.mono (B12.out _ _).size)); have u0 := cell_keep b13 (t0 _ _); have u1 := cell_keep b13 (t1 _ _); have u2 := cell_keep b13 (t2 _ _); have u3 := cell_keep b13 (t3 _ _); have u4 : w13.cell? ⟨w11.heap.size + 1, 0, none⟩ = some (.int .i64 er) := cell_keep b13 (by simp); have u5 : w13.cell? ⟨w11.heap.size + 1, 1, none⟩ = some (.int .i64 pe) := cell_keep b13 (by simp); clear b13)
                  | (go_at_call 5; (with_reducible refine (A4.out _ (HE.out _ (B10.out _))).mono ?_); rintro e w11 ⟨nm11, a11, n11, c11, rfl, b11⟩; have t0 := later2 b11 (s0 _); have t1 := later2 b11 (s1 _); have t2 : ∀ o1 o2, ((w11.alloc o1).alloc o2).cell? ⟨w10.heap.size, 0, none⟩ = some (.int .i64 er) := later2 b11 (by simp); have t3 : ∀ o1 o2, ((w11.alloc o1).alloc o2).cell? ⟨w10.heap.size, 1, none⟩ = some (.int .i64 pe) := later2 b11 (by simp); have B12 : Hid (∀ o1 o2, Below w.heap.size w ((w11.alloc o1).alloc o2)) := fun o1 o2 => by { have qq := (B10.out _).trans (b11.mono (B10.out _).size); exact qq.trans ((((Below.refl _ _).alloc (Nat.le_refl _) o1).alloc (by simp) o2).mono qq.size) }; clear b11 s0 s1)
                  | (go_at_call 7; (with_reducible refine (A3.out _ (HE.out _ B9.out)).mono ?_); rintro e w10 ⟨a10, n10, c10, rfl, b10⟩; have s0 := later3 b10 z9; have s1 := later3 b10 z8; have B10 : Hid (∀ o, Below w.heap.size w (w10.alloc o)) := fun o => by { have qq := B9.out.trans (b10.mono B9.out.size); exact qq.alloc qq.size o }; clear b10))
                go_ret
                exact ⟨by first | rfl | simp, F13.out⟩
              · rw [hf] at A4
                rw [he, hp] at A3
                simp only at A4
                clear he hp hf
                go_wp2_with (first
                  | (go_at_call 6; (with_reducible refine (AW.out _ (B12.out _ _)).mono ?_); rintro e w13 ⟨rfl, b13⟩; have F13 := hidden ((B12.out _ _).trans (b13.mono (B12.out _ _).size)); have u0 := cell_keep b13 (t0 _ _); have u1 := cell_keep b13 (t1 _ _); have u2 := cell_keep b13 (t2 _ _); have u3 := cell_keep b13 (t3 _ _); have u4 : w13.cell? ⟨w11.heap.size + 1, 0, none⟩ = some (.int .i64 50) := cell_keep b13 (by simp); have u5 : w13.cell? ⟨w11.heap.size + 1, 1, none⟩ = some (.int .i64 (q : Int)) := cell_keep b13 (by simp); clear b13)
                  | (go_at_call 5; (with_reducible refine (A4.out _ (HE.out _ (B10.out _))).mono ?_); rintro e w11 ⟨nm11, a11, n11, c11, rfl, b11⟩; have t0 := later2 b11 (s0 _); have t1 := later2 b11 (s1 _); have t2 : ∀ o1 o2, ((w11.alloc o1).alloc o2).cell? ⟨w10.heap.size, 0, none⟩ = some (.int .i64 0) := later2 b11 (by simp); have t3 : ∀ o1 o2, ((w11.alloc o1).alloc o2).cell? ⟨w10.heap.size, 1, none⟩ = some (.int .i64 0) := later2 b11 (by simp); have B12 : Hid (∀ o1 o2, Below w.heap.size w ((w11.alloc o1).alloc o2)) := fun o1 o2 => by { have qq := (B10.out _).trans (b11.mono (B10.out _).size); exact qq.trans ((((Below.refl _ _).alloc (Nat.le_refl _) o1).alloc (by simp) o2).mono qq.size) }; clear b11 s0 s1)
                  | (go_at_call 7; (with_reducible refine (A3.out _ (HE.out _ B9.out)).mono ?_); rintro e w10 ⟨a10, n10, c10, rfl, b10⟩; have s0 := later3 b10 z9; have s1 := later3 b10 z8; have B10 : Hid (∀ o, Below w.heap.size w (w10.alloc o)) := fun o => by { have qq := B9.out.trans (b10.mono B9.out.size); exact qq.alloc qq.size o }; clear b10))
                go_ret
                exact ⟨by first | rfl | simp, F13.out⟩
      · have hne : (nthT ts ix).place ≠ (nthT ts j).place := fun e => hij ((HSA.out ix hlt).1 e)
        rw [hpl] at hne
        have x6 : ((nthT ts ix).place == (q : Int)) = false := by simpa using hne
        have HOR : Hid (ix + 1 ≤ j ∨ (nthT ts j).sort = 0) := by
          rcases hor with h | h
          · exact .inl (by omega)
          · exact .inr h
        clear hne hor
        generalize (nthT ts ix).place = pl at *
        generalize nthT ts ix = t at *
        go_wp2
        go_quiet (fail)
        go_wp2
        go_roundg (n - (ix + 1))
        case measure => omega
        case rel => exact ⟨ix + 1, by omega, rfl, by go_num, HOR.out, HKW.out _, HZW.out _, HBW.out _⟩
    · have ei : ix = n := by omega
      subst ei
      have hki : ¬ ((ix : Int) < (ix : Int)) := by omega
      have hend : (q : Int) = (l.length : Int) := HEND.out (by rcases hor with h | h; omega; exact h)
      have x6 : ((q : Int) == (l.length : Int)) = true := by simpa using hend
      clear hend hor
      go_wp2_with (go_at_call 6; (with_reducible refine (AW.out _ HBE.out).mono ?_); rintro e w6 ⟨rfl, b6⟩; have u1 := cell_keep b6 HZ.out.2)
      go_ret
      exact ⟨by first | rfl | simp, HBE.out.trans (b6.mono HBE.out.size)⟩
set_option maxRecDepth 100000 in
set_option maxHeartbeats 8000000 in
theorem ahead_bad_same (l mo : List UInt8) (w : World) (hE : Env w) (hT : Tab w.heap.size w) (ts : List Tok) (n j q : Nat) (hb : Bad l ts n j q) (hfr : faultO (l.take q) = (50, (q : Int))) : Calls Tryd.prog 3 #[.string (str l), .string (str mo)] w fun e w' => e = .returned (.bool true) ∧ Below w.heap.size w w' := by
  have her : (textG l).err = 0 := by rw [hb.text]
  have hEn := text_ended her
  obtain ⟨hll, hL⟩ := text_laid her
  have hlen := text_len5 l
  have hin := text_in64 l
  have hF := laid_fine _ _ hL hEn
  rw [hb.text] at hEn hL hlen hin hF
  simp only at hEn hL hlen hin hF
  have hne : ts ≠ [] := by intro e; have := hEn.pos; rw [e] at this; simp at this
  have A1 := hidden (parse_fault l w hE)
  rw [hb.fault] at A1
  simp only at A1
  have A2 : Hid (∀ W, Env W → Calls Tryd.prog 5 #[.string (str (l.take q))] W fun e w' => ∃ nm a n c, e = .returned (.tuple #[.agg #[.string nm, .slice a n c], .agg #[.int .i64 50, .int .i64 (q : Int)]]) ∧ Below W.heap.size W w') := fun W hW => by
    have := parse_fault (l.take q) W hW
    rw [hfr] at this
    exact this
  have A0 : Hid (∀ W, Env W → Calls Tryd.prog 7 #[.string (str l)] W (ReadAt W ts n)) := fun W hW => all_at l ts n hb.text hb.len hne W hW
  have AW : Hid (∀ W, Below w.heap.size w W → Calls Tryd.prog 6 #[] W fun e w' => e = .returned (.bool true) ∧ Below W.heap.size W w') := fun W h => awake5 W (hE.below h) (hT.on5 h)
  have HE : Hid (∀ W, Below w.heap.size w W → Env W) := fun W h => hE.below h
  have HFT := hidden (fine_fits hin)
  have HSA : Hid (∀ i, i < n → ((nthT ts i).place = (nthT ts j).place ↔ i = j)) := fun i h1 => same_place hL (by rw [hb.len]; exact h1) (by rw [hb.len]; exact hb.lt)
  have HBD := hidden hb
  have HFN := hidden hF
  have hpl := hb.place
  have hjn := hb.lt
  have hql0 := hb.room
  have hqI : (q : Int) ≤ (l.length : Int) := by omega
  have hlI : (l.length : Int) ≤ 1048576 := by omega
  have hn2 : (n : Int) ≤ 2000000 := by have := hb.len; omega
  have HN := hidden hb.len
  have HEND : Hid ((nthT ts j).sort = 0 → (q : Int) = (l.length : Int)) := fun h0 => by
    have h1 : j = ts.length - 1 := by
      rcases Nat.lt_or_ge (j + 1) ts.length with h2 | h2
      · have h3 := (laid_right ts 0 hL j h2).1
        rcases right_cases h3 with ⟨a, -⟩ | ⟨a, -⟩ | ⟨a, -⟩ <;> omega
      · have := hb.len; omega
    exact last_place hL hEn (by rw [← h1]; exact hpl)
  have sl := str_size l
  have sM := str_size mo
  have HCUT := str_to l q
  clear hE hT hb her hEn hL hlen hin hF hne hll
  unfold ReadAt at A0
  go_enter Tryd.func3, Tryd.ntmps3
  go_wp2_with (first
    | (go_at_call 7; (with_reducible refine (A0.out _ (HE.out _ (B4.out _ _))).mono ?_); rintro e w5 ⟨g, off, cap, rfl, hat, -, b5⟩; have K5 := hidden hat; have Z5 : Hid (w5.cell? ⟨w1.heap.size + 1, 0, none⟩ = some (.int .i64 50) ∧ w5.cell? ⟨w1.heap.size + 1, 1, none⟩ = some (.int .i64 (q : Int))) := ⟨cell_keep b5 (y0 _ _), cell_keep b5 (y1 _ _)⟩; have B5 := hidden ((B4.out _ _).trans (b5.mono (B4.out _ _).size)); clear hat b5)
    | (go_at_call 5; (with_reducible refine (A2.out _ (HE.out _ (B2.out _ _))).mono ?_); rintro e w3 ⟨nm3, a3, n3, c3, rfl, b3⟩; have y0 : ∀ o1 o2, ((w3.alloc o1).alloc o2).cell? ⟨w1.heap.size + 1, 0, none⟩ = some (.int .i64 50) := later2 b3 (by simp); have y1 : ∀ o1 o2, ((w3.alloc o1).alloc o2).cell? ⟨w1.heap.size + 1, 1, none⟩ = some (.int .i64 (q : Int)) := later2 b3 (by simp); have B4 : Hid (∀ o1 o2, Below w.heap.size w ((w3.alloc o1).alloc o2)) := fun o1 o2 => by { have qq := (B2.out _ _).trans (b3.mono (B2.out _ _).size); exact qq.trans ((((Below.refl _ _).alloc (Nat.le_refl _) o1).alloc (by simp) o2).mono qq.size) }; clear b3)
    | (go_at_call 5; (with_reducible refine A1.out.mono ?_); rintro e w1 ⟨nm, a, n1, c, rfl, b1⟩; have B2 : Hid (∀ o1 o2, Below w.heap.size w ((w1.alloc o1).alloc o2)) := fun o1 o2 => b1.trans ((((Below.refl _ _).alloc (Nat.le_refl _) o1).alloc (by simp) o2).mono b1.size); clear b1))
  clear y0 y1
  have HB0 := hidden (B5.out.alloc B5.out.size (.cells #[.int .i64 0, .int .i64 0] 27))
  have HK0 := hidden (K5.out.below ((Below.refl w5.heap.size w5).alloc (Nat.le_refl _) (.cells #[.int .i64 0, .int .i64 0] 27)))
  have HZ0 : Hid ((w5.alloc (.cells #[.int .i64 0, .int .i64 0] 27)).cell? ⟨w1.heap.size + 1, 0, none⟩ = some (.int .i64 50) ∧ (w5.alloc (.cells #[.int .i64 0, .int .i64 0] 27)).cell? ⟨w1.heap.size + 1, 1, none⟩ = some (.int .i64 (q : Int))) := ⟨cell_keep ((Below.refl w5.heap.size w5).alloc (Nat.le_refl _) _) Z5.out.1, cell_keep ((Below.refl w5.heap.size w5).alloc (Nat.le_refl _) _) Z5.out.2⟩
  go_loopg [11] n (fun gk v wr => ∃ (i : Nat), i ≤ n ∧ gk = n - i ∧ v = .int .i64 (i : Int) ∧ (i ≤ j ∨ (nthT ts j).sort = 0) ∧ AtT wr (some ⟨g, off, none⟩) ts ∧ (wr.cell? ⟨w1.heap.size + 1, 0, none⟩ = some (.int .i64 50) ∧ wr.cell? ⟨w1.heap.size + 1, 1, none⟩ = some (.int .i64 (q : Int))) ∧ Below w.heap.size w wr)
  case atStart => exact ⟨0, Nat.zero_le _, rfl, rfl, .inl (Nat.zero_le _), HK0.out, HZ0.out, HB0.out⟩
  case round =>
    clear HB0 HK0 HZ0 K5 Z5 B5 B4 B2 A0 A1 A2
    obtain ⟨ix, hin, rfl, rfl, hor, hat, ⟨z0, z1⟩, hbe⟩ := hrel
    have HAT := hidden hat
    have HBE := hidden hbe
    have HZ := hidden (And.intro z0 z1)
    clear hat hbe
    by_cases hlt : ix < n
    · have hki : (ix : Int) < (n : Int) := by omega
      obtain ⟨c0, c1, c2, c3⟩ := HAT.out.at (k := ix) (by rw [HN.out]; exact hlt)
      have HKW : Hid (∀ m, AtT (wr.drewN m) (some ⟨g, off, none⟩) ts) := fun m => HAT.out.below (drew_below _ _)
      have HZW : Hid (∀ m, ((wr.drewN m).cell? ⟨w1.heap.size + 1, 0, none⟩ = some (.int .i64 50) ∧ (wr.drewN m).cell? ⟨w1.heap.size + 1, 1, none⟩ = some (.int .i64 (q : Int)))) := fun m => ⟨cell_keep (drew_below _ _) HZ.out.1, cell_keep (drew_below _ _) HZ.out.2⟩
      have HBW : Hid (∀ m, Below w.heap.size w (wr.drewN m)) := fun m => bdrew HBE.out m
      by_cases hij : ix = j
      · subst hij
        by_cases hso : (nthT ts ix).sort = 0
        · have HS0 := hidden hso
          rw [hpl] at c3
          rw [hso] at c0
          have x6 : ((q : Int) == (q : Int)) = true := by simp
          go_wp2
          go_quiet (fail)
          go_wp2
          go_roundg (n - (ix + 1))
          case measure => omega
          case rel => exact ⟨ix + 1, by omega, rfl, by go_num, .inr HS0.out, HKW.out _, HZW.out _, HBW.out _⟩
        · have x5 : ((nthT ts ix).sort != 0) = true := by simpa using hso
          have x6 : ((q : Int) == (q : Int)) = true := by simp
          rw [hpl] at c3
          have b2 : IntKind.i64.wrap (1000000 - (l.length : Int)) = 1000000 - (l.length : Int) := by rw [IntKind.wrap_i64]; omega
          by_cases hm : (mo.length : Int) > 1000000 - (l.length : Int)
          · go_wp2
            go_quiet (fail)
            go_wp2
            go_ret
            exact ⟨rfl, HBW.out _⟩
          · have hbh := HBD.out.behind hso mo (by omega)
            have HSP : Hid (∀ W, Calls Tryd.prog 8 #[.agg #[.int .u8 (nthT ts ix).sort, .string (str (nthT ts ix).text), .int .i64 (nthT ts ix).num, .int .i64 (q : Int)]] W fun e w' => e = .returned (.string (str (spelt (nthT ts ix)))) ∧ Below W.heap.size W w') := fun W => by
              have := spelt_any (nthT ts ix) W (HFT.out ix)
              rw [hpl] at this
              exact this
            have hs20 := fine_len HFN.out ix
            have A3 := hidden (fun W (hW : Env W) => all_two (l.take q ++ spelt (nthT ts ix) ++ [10] ++ mo) W hW)
            have A4 := hidden (fun W (hW : Env W) => parse_fault (l.take q ++ spelt (nthT ts ix) ++ [10] ++ mo) W hW)
            have hP : (l.take q).length ≤ l.length := by rw [List.length_take]; omega
            have hsn := hso
            clear hso
            generalize spelt (nthT ts ix) = S at *
            generalize l.take q = P at *
            generalize nthT ts ix = t at *
            obtain ⟨so, tx, nu, pl⟩ := t
            simp only at c0 c1 c2 c3 HSP x5
            have sP := str_size P
            have sS := str_size S
            have sPS := str_size (P ++ S)
            have s10 : (ByteArray.mk #[10]).size = 1 := rfl
            have sPT := str_size (P ++ S ++ [10])
            have j1 := str_app P S
            have j2 : str (P ++ S) ++ ByteArray.mk #[10] = str (P ++ S ++ [10]) := str_app (P ++ S) [10]
            have j3 := str_app (P ++ S ++ [10]) mo
            have m1 : ¬ (9223372036854775807 < P.length + S.length) := by omega
            have m2 : ¬ (9223372036854775807 < (P ++ S).length + 1) := by rw [List.length_append]; omega
            have m3 : ¬ (9223372036854775807 < (P ++ S ++ [10]).length + mo.length) := by rw [List.length_append, List.length_append]; show ¬ (_ < P.length + S.length + 1 + mo.length); omega
            generalize hY1 : P ++ S = Y1 at *
            generalize hY2 : Y1 ++ [10] = Y2 at *
            generalize hY3 : Y2 ++ mo = Y3 at *
            clear hY1 hY2 hY3
            have hql : q ≤ l.length := hql0
            go_wp2
            go_quiet (fail)
            go_wp2
            refine wp_region_said 13 (fun i u v => match i with
                | 0 => v = .string (str l)
                | 1 => v = .pointer (some ⟨w1.heap.size + 1, 1, none⟩)
                | 2 => v = .int .i64 (q : Int)
                | 3 => v = .string (str P)
                | 4 => v = .slice (some ⟨g, off, none⟩) n cap
                | 5 => v = .int .i64 (ix : Int)
                | 6 => v = .pointer (some ⟨g, off + ix * 4, none⟩)
                | 7 => v = .agg #[.int .u8 so, .string (str tx), .int .i64 nu, .int .i64 (q : Int)]
                | 8 => v = .string (str S)
                | 9 => v = .string (str Y1)
                | 10 => v = .string (str Y2)
                | 11 => v = .string (str mo)
                | 12 => v = .string (str Y3)
                | _ => True) (by kernel_rfl) (by kernel_rfl) (by kernel_rfl) (by kernel_rfl) ?_ ?_ ?_
            · intro i w v w' h hb
              match i, h with
              | 0, h => exact h
              | 1, h => exact h
              | 2, h => exact h
              | 3, h => exact h
              | 4, h => exact h
              | 5, h => exact h
              | 6, h => exact h
              | 7, h => exact h
              | 8, h => exact h
              | 9, h => exact h
              | 10, h => exact h
              | 11, h => exact h
              | 12, h => exact h
              | _ + 13, _ => trivial
            · intro i o ρ w' hi ho hb hc hf hfr hdep
              have LK : ∀ {a : Addr} {x : Value}, wr.cell? a = some x → w'.cell? a = some x := fun h => cell_keep hb (cell_keep (drew_below _ _) h)
              have k1 := LK HZ.out.2
              have f0 := LK c0
              have f1 := LK c1
              have f2 := LK c2
              have f3 := LK c3
              match i, hi with
              | 0, _ =>
                simp only [List.getElem?_toArray, List.getElem?_cons_zero, Option.some.injEq] at ho
                subst ho
                have ts : ρ (.tmp 0) = .string (str l) := hfr 0 (by kernel_rfl)
                simp [go_sem, ts]
                exact ⟨Below.refl _ _, rfl⟩
              | 1, _ =>
                simp only [List.getElem?_toArray, List.getElem?_cons_zero, List.getElem?_cons_succ, Option.some.injEq] at ho
                subst ho
                have ts : ρ (.tmp 6) = .pointer (some ⟨w1.heap.size + 1, 0, none⟩) := hfr 6 (by kernel_rfl)
                simp [go_sem, ts]
                exact ⟨Below.refl _ _, rfl⟩
              | 2, _ =>
                simp only [List.getElem?_toArray, List.getElem?_cons_zero, List.getElem?_cons_succ, Option.some.injEq] at ho
                subst ho
                have ts : ρ (.tmp 86) = .pointer (some ⟨w1.heap.size + 1, 1, none⟩) := hdep 1 86 (by kernel_rfl) (by kernel_rfl)
                simp [go_sem, ts, k1]
                exact ⟨Below.refl _ _, rfl⟩
              | 3, _ =>
                simp only [List.getElem?_toArray, List.getElem?_cons_zero, List.getElem?_cons_succ, Option.some.injEq] at ho
                subst ho
                have t1 : ρ (.tmp 85) = .string (str l) := hdep 0 85 (by kernel_rfl) (by kernel_rfl)
                have t2 : ρ (.tmp 87) = .int .i64 (q : Int) := hdep 2 87 (by kernel_rfl) (by kernel_rfl)
                simp [go_sem, t1, t2, sl, hql, HCUT]
                exact ⟨Below.refl _ _, rfl⟩
              | 4, _ =>
                simp only [List.getElem?_toArray, List.getElem?_cons_zero, List.getElem?_cons_succ, Option.some.injEq] at ho
                subst ho
                have ts : ρ (.tmp 9) = .slice (some ⟨g, off, none⟩) n cap := hfr 9 (by kernel_rfl)
                simp [go_sem, ts]
                exact ⟨Below.refl _ _, rfl⟩
              | 5, _ =>
                simp only [List.getElem?_toArray, List.getElem?_cons_zero, List.getElem?_cons_succ, Option.some.injEq] at ho
                subst ho
                have ts : ρ (.tmp 11) = .int .i64 (ix : Int) := hfr 11 (by kernel_rfl)
                simp [go_sem, ts]
                exact ⟨Below.refl _ _, rfl⟩
              | 6, _ =>
                simp only [List.getElem?_toArray, List.getElem?_cons_zero, List.getElem?_cons_succ, Option.some.injEq] at ho
                subst ho
                have t1 : ρ (.tmp 89) = .slice (some ⟨g, off, none⟩) n cap := hdep 4 89 (by kernel_rfl) (by kernel_rfl)
                have t2 : ρ (.tmp 90) = .int .i64 (ix : Int) := hdep 5 90 (by kernel_rfl) (by kernel_rfl)
                simp [go_sem, t1, t2, hki]
                exact ⟨Below.refl _ _, rfl⟩
              | 7, _ =>
                simp only [List.getElem?_toArray, List.getElem?_cons_zero, List.getElem?_cons_succ, Option.some.injEq] at ho
                subst ho
                have t1 : ρ (.tmp 91) = .pointer (some ⟨g, off + ix * 4, none⟩) := hdep 6 91 (by kernel_rfl) (by kernel_rfl)
                simp [go_sem, t1, f0, f1, f2, f3]
                exact ⟨Below.refl _ _, rfl⟩
              | 8, _ =>
                simp only [List.getElem?_toArray, List.getElem?_cons_zero, List.getElem?_cons_succ, Option.some.injEq] at ho
                subst ho
                have t1 : ρ (.tmp 92) = .agg #[.int .u8 so, .string (str tx), .int .i64 nu, .int .i64 (q : Int)] := hdep 7 92 (by kernel_rfl) (by kernel_rfl)
                simp [go_sem, t1, hf]
                exact ⟨rfl, (HSP.out w').mono fun e u h => ⟨_, h.1, h.2, rfl⟩⟩
              | 9, _ =>
                simp only [List.getElem?_toArray, List.getElem?_cons_zero, List.getElem?_cons_succ, Option.some.injEq] at ho
                subst ho
                have t1 : ρ (.tmp 88) = .string (str P) := hdep 3 88 (by kernel_rfl) (by kernel_rfl)
                have t2 : ρ (.tmp 93) = .string (str S) := hdep 8 93 (by kernel_rfl) (by kernel_rfl)
                simp [go_sem, t1, t2, sP, sS, j1, m1]
                exact ⟨Below.refl _ _, rfl⟩
              | 10, _ =>
                simp only [List.getElem?_toArray, List.getElem?_cons_zero, List.getElem?_cons_succ, Option.some.injEq] at ho
                subst ho
                have t1 : ρ (.tmp 94) = .string (str Y1) := hdep 9 94 (by kernel_rfl) (by kernel_rfl)
                simp [go_sem, t1, hc, sPS, s10, j2, m2]
                exact ⟨Below.refl _ _, rfl⟩
              | 11, _ =>
                simp only [List.getElem?_toArray, List.getElem?_cons_zero, List.getElem?_cons_succ, Option.some.injEq] at ho
                subst ho
                have ts : ρ (.tmp 1) = .string (str mo) := hfr 1 (by kernel_rfl)
                simp [go_sem, ts]
                exact ⟨Below.refl _ _, rfl⟩
              | 12, _ =>
                simp only [List.getElem?_toArray, List.getElem?_cons_zero, List.getElem?_cons_succ, Option.some.injEq] at ho
                subst ho
                have t1 : ρ (.tmp 95) = .string (str Y2) := hdep 10 95 (by kernel_rfl) (by kernel_rfl)
                have t2 : ρ (.tmp 96) = .string (str mo) := hdep 11 96 (by kernel_rfl) (by kernel_rfl)
                simp [go_sem, t1, t2, sPT, sM, j3, m3]
                exact ⟨Below.refl _ _, rfl⟩
            · intro V w9 q9 hS
              have e0 : V 0 = .string (str l) := hS 0 (by decide)
              have e1 : V 1 = .pointer (some ⟨w1.heap.size + 1, 1, none⟩) := hS 1 (by decide)
              have e2 : V 2 = .int .i64 (q : Int) := hS 2 (by decide)
              have e3 : V 3 = .string (str P) := hS 3 (by decide)
              have e4 : V 4 = .slice (some ⟨g, off, none⟩) n cap := hS 4 (by decide)
              have e5 : V 5 = .int .i64 (ix : Int) := hS 5 (by decide)
              have e6 : V 6 = .pointer (some ⟨g, off + ix * 4, none⟩) := hS 6 (by decide)
              have e7 : V 7 = .agg #[.int .u8 so, .string (str tx), .int .i64 nu, .int .i64 (q : Int)] := hS 7 (by decide)
              have e8 : V 8 = .string (str S) := hS 8 (by decide)
              have e9 : V 9 = .string (str Y1) := hS 9 (by decide)
              have e10 : V 10 = .string (str Y2) := hS 10 (by decide)
              have e11 : V 11 = .string (str mo) := hS 11 (by decide)
              have e12 : V 12 = .string (str Y3) := hS 12 (by decide)
              simp only [List.drop_succ_cons, List.drop_zero, List.take_succ_cons, List.take_zero, puts, e0, e1, e2, e3, e4, e5, e6, e7, e8, e9, e10, e11, e12]
              clear hS e0 e1 e2 e3 e4 e5 e6 e7 e8 e9 e10 e11 e12 V
              have B9 := hidden ((HBW.out _).trans (q9.mono (HBW.out _).size))
              have z9 : w9.cell? ⟨w1.heap.size + 1, 0, none⟩ = some (.int .i64 50) := cell_keep q9 (HZW.out _).1
              have z8 : w9.cell? ⟨w1.heap.size + 1, 1, none⟩ = some (.int .i64 (q : Int)) := cell_keep q9 (HZW.out _).2
              rcases hbh with ⟨he, hf⟩ | ⟨he, hp, hf⟩
              · rw [hf] at A4
                simp only at A4
                generalize (textG Y3).err = er at *
                generalize (textG Y3).place = pe at *
                have x7 : (er == 0) = false := by simpa using he
                have x8 : (er != 0) = true := by simpa using he
                have x9 : (er == er) = true := by simp
                have y9 : (pe == pe) = true := by simp
                clear he hf
                go_wp2_with (first
                  | (go_at_call 6; (with_reducible refine (AW.out _ (B12.out _ _)).mono ?_); rintro e w13 ⟨rfl, b13⟩; have F13 := hidden ((B12.out _ _).trans (b13.mono (B12.out _ _).size)); have u0 := cell_keep b13 (t0 _ _); have u1 := cell_keep b13 (t1 _ _); have u2 := cell_keep b13 (t2 _ _); have u3 := cell_keep b13 (t3 _ _); have u4 : w13.cell? ⟨w11.heap.size + 1, 0, none⟩ = some (.int .i64 er) := cell_keep b13 (by simp); have u5 : w13.cell? ⟨w11.heap.size + 1, 1, none⟩ = some (.int .i64 pe) := cell_keep b13 (by simp); clear b13)
                  | (go_at_call 5; (with_reducible refine (A4.out _ (HE.out _ (B10.out _))).mono ?_); rintro e w11 ⟨nm11, a11, n11, c11, rfl, b11⟩; have t0 := later2 b11 (s0 _); have t1 := later2 b11 (s1 _); have t2 : ∀ o1 o2, ((w11.alloc o1).alloc o2).cell? ⟨w10.heap.size, 0, none⟩ = some (.int .i64 er) := later2 b11 (by simp); have t3 : ∀ o1 o2, ((w11.alloc o1).alloc o2).cell? ⟨w10.heap.size, 1, none⟩ = some (.int .i64 pe) := later2 b11 (by simp); have B12 : Hid (∀ o1 o2, Below w.heap.size w ((w11.alloc o1).alloc o2)) := fun o1 o2 => by { have qq := (B10.out _).trans (b11.mono (B10.out _).size); exact qq.trans ((((Below.refl _ _).alloc (Nat.le_refl _) o1).alloc (by simp) o2).mono qq.size) }; clear b11 s0 s1)
                  | (go_at_call 7; (with_reducible refine (A3.out _ (HE.out _ B9.out)).mono ?_); rintro e w10 ⟨a10, n10, c10, rfl, b10⟩; have s0 := later3 b10 z9; have s1 := later3 b10 z8; have B10 : Hid (∀ o, Below w.heap.size w (w10.alloc o)) := fun o => by { have qq := B9.out.trans (b10.mono B9.out.size); exact qq.alloc qq.size o }; clear b10))
                go_ret
                exact ⟨by first | rfl | simp, F13.out⟩
              · rw [hf] at A4
                rw [he, hp] at A3
                simp only at A4
                clear he hp hf
                go_wp2_with (first
                  | (go_at_call 6; (with_reducible refine (AW.out _ (B12.out _ _)).mono ?_); rintro e w13 ⟨rfl, b13⟩; have F13 := hidden ((B12.out _ _).trans (b13.mono (B12.out _ _).size)); have u0 := cell_keep b13 (t0 _ _); have u1 := cell_keep b13 (t1 _ _); have u2 := cell_keep b13 (t2 _ _); have u3 := cell_keep b13 (t3 _ _); have u4 : w13.cell? ⟨w11.heap.size + 1, 0, none⟩ = some (.int .i64 50) := cell_keep b13 (by simp); have u5 : w13.cell? ⟨w11.heap.size + 1, 1, none⟩ = some (.int .i64 (q : Int)) := cell_keep b13 (by simp); clear b13)
                  | (go_at_call 5; (with_reducible refine (A4.out _ (HE.out _ (B10.out _))).mono ?_); rintro e w11 ⟨nm11, a11, n11, c11, rfl, b11⟩; have t0 := later2 b11 (s0 _); have t1 := later2 b11 (s1 _); have t2 : ∀ o1 o2, ((w11.alloc o1).alloc o2).cell? ⟨w10.heap.size, 0, none⟩ = some (.int .i64 0) := later2 b11 (by simp); have t3 : ∀ o1 o2, ((w11.alloc o1).alloc o2).cell? ⟨w10.heap.size, 1, none⟩ = some (.int .i64 0) := later2 b11 (by simp); have B12 : Hid (∀ o1 o2, Below w.heap.size w ((w11.alloc o1).alloc o2)) := fun o1 o2 => by { have qq := (B10.out _).trans (b11.mono (B10.out _).size); exact qq.trans ((((Below.refl _ _).alloc (Nat.le_refl _) o1).alloc (by simp) o2).mono qq.size) }; clear b11 s0 s1)
                  | (go_at_call 7; (with_reducible refine (A3.out _ (HE.out _ B9.out)).mono ?_); rintro e w10 ⟨a10, n10, c10, rfl, b10⟩; have s0 := later3 b10 z9; have s1 := later3 b10 z8; have B10 : Hid (∀ o, Below w.heap.size w (w10.alloc o)) := fun o => by { have qq := B9.out.trans (b10.mono B9.out.size); exact qq.alloc qq.size o }; clear b10))
                go_ret
                exact ⟨by first | rfl | simp, F13.out⟩
      · have hne : (nthT ts ix).place ≠ (nthT ts j).place := fun e => hij ((HSA.out ix hlt).1 e)
        rw [hpl] at hne
        have x6 : ((nthT ts ix).place == (q : Int)) = false := by simpa using hne
        have HOR : Hid (ix + 1 ≤ j ∨ (nthT ts j).sort = 0) := by
          rcases hor with h | h
          · exact .inl (by omega)
          · exact .inr h
        clear hne hor
        generalize (nthT ts ix).place = pl at *
        generalize nthT ts ix = t at *
        go_wp2
        go_quiet (fail)
        go_wp2
        go_roundg (n - (ix + 1))
        case measure => omega
        case rel => exact ⟨ix + 1, by omega, rfl, by go_num, HOR.out, HKW.out _, HZW.out _, HBW.out _⟩
    · have ei : ix = n := by omega
      subst ei
      have hki : ¬ ((ix : Int) < (ix : Int)) := by omega
      have hend : (q : Int) = (l.length : Int) := HEND.out (by rcases hor with h | h; omega; exact h)
      have x6 : ((q : Int) == (l.length : Int)) = true := by simpa using hend
      clear hend hor
      go_wp2_with (go_at_call 6; (with_reducible refine (AW.out _ HBE.out).mono ?_); rintro e w6 ⟨rfl, b6⟩; have u1 := cell_keep b6 HZ.out.2)
      go_ret
      exact ⟨by first | rfl | simp, HBE.out.trans (b6.mono HBE.out.size)⟩
theorem sketchAhead_walk (l mo : List UInt8) (w : World) (hE : Env w) (hT : Tab w.heap.size w) : Calls Tryd.prog 3 #[.string (str l), .string (str mo)] w fun e w' => e = .returned (.bool true) ∧ Below w.heap.size w w' := by
  by_cases h : (faultO l).1 = 50
  · obtain ⟨ts, n, j, q, hb⟩ := bad_of h
    rcases hb.front with h1 | h1
    · exact ahead_bad_zero l mo w hE hT ts n j q hb h1
    · exact ahead_bad_same l mo w hE hT ts n j q hb h1
  · exact ahead_other l mo w hE hT h
end Go.Proofs.YtlnodnkfagehgabDoor
