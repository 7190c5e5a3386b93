/- Texts of one chain, laid one behind the other. -/
import Derived.Test.YtlnodnkfagehgaaDoorChain31
/- The walk through the statement SketchAgain. -/
namespace Go.Proofs.YtlnodnkfagehgaaDoor
open Go.ChangeShapes Go.WideShapes Go.ChangeAt Go.RowKit

theorem formX_txt (nm : List UInt8) (xs : List Itm) : txtP (formQ nm xs) = formX nm xs := by
  have h := txt_form nm (xs.map fun x => (x, Value.slice none 0 0))
  rw [form_items, List.map_map, show ((fun x : Itm × Value => x.1) ∘ fun x : Itm => (x, Value.slice none 0 0)) = id from rfl, List.map_id] at h
  exact h
theorem text_items {l : List UInt8} {s : Skt} {j : Nat} (h : (textG l).err = 0) (hs : sketchR (textG l).toks = (some s, j)) : s.items.length ≤ 2000000 := by
  obtain ⟨hl, hL⟩ := text_laid h
  obtain ⟨⟨r, hr⟩, -⟩ := took_sketch (laid_fine _ _ hL (text_ended h)) hs
  have h1 := congrArg List.length hr
  rw [List.length_map, List.length_append] at h1
  have h2 := items_len s.items
  have h3 : (s.items.flatMap itemU).length ≤ (formU s.name s.items).length := by
    unfold formU
    simp only [List.length_cons, List.length_append]
    omega
  have := text_len5 l
  omega
/-- A text's fault, if it is refused. -/
def faultO (l : List UInt8) : Int × Int := if (textG l).err ≠ 0 then ((textG l).err, (textG l).place) else match sketchR (textG l).toks with
  | (none, j) => (50, (nthT (textG l).toks j).place)
  | (some _, _) => (0, 0)
/-- A text that is refused. -/
theorem parse_no {l : List UInt8} (W : World) (hE : Env W) (h : (faultO l).1 ≠ 0) : Calls Tryd.prog 11 #[.string (str l)] W fun e w' => e = .returned (.tuple #[.agg #[.string ⟨#[]⟩, .slice none 0 0], .agg #[.int .i64 (faultO l).1, .int .i64 (faultO l).2]]) ∧ Below W.heap.size W w' := by
  refine (parse_any l W hE).mono ?_
  rintro e w' ⟨hh, hb⟩
  refine ⟨?_, hb⟩
  unfold faultO at h ⊢
  rcases hh with ⟨h1, rfl⟩ | ⟨h1, j, h2, rfl⟩ | ⟨h1, s, j, a, c, L, h2, -⟩
  · rw [if_pos h1]
  · rw [if_neg (by simp [h1]), h2]
  · rw [if_neg (by simp [h1]), h2] at h
    exact absurd rfl h
/-- A text that is read. -/
theorem parse_yes {l : List UInt8} {s : Skt} {j : Nat} (W : World) (hE : Env W) (h : (textG l).err = 0) (hs : sketchR (textG l).toks = (some s, j)) : Calls Tryd.prog 11 #[.string (str l)] W fun e w' => ∃ a c L, e = .returned (.tuple #[.agg #[.string (str s.name), .slice a s.items.length c], .agg #[.int .i64 0, .int .i64 0]]) ∧ s.items = L.map Prod.fst ∧ L.length = s.items.length ∧ ItR w' a L ∧ Its W.heap.size w' (.slice a s.items.length c) L ∧ Below W.heap.size W w' := by
  refine (parse_any l W hE).mono ?_
  rintro e w' ⟨hh, hb⟩
  rcases hh with ⟨h1, -⟩ | ⟨-, j2, h2, -⟩ | ⟨-, s2, j2, a, c, L, h2, rfl, h3, h4⟩
  · exact absurd h h1
  · rw [hs] at h2; cases h2
  · rw [hs] at h2
    injection h2 with h5 h6
    have h5 := Option.some.inj h5
    subst h5
    have hl : L.length = s.items.length := by rw [h3, List.length_map]
    refine ⟨a, c, L, rfl, h3, hl, ?_, h4, hb⟩
    rw [← hl] at h4
    exact h4.at5
theorem fault_cases (l : List UInt8) : (faultO l).1 ≠ 0 ∨ ((textG l).err = 0 ∧ ∃ s j, sketchR (textG l).toks = (some s, j)) := by
  unfold faultO
  by_cases h : (textG l).err ≠ 0
  · rw [if_pos h]; exact .inl h
  · rw [if_neg h]
    have h0 : (textG l).err = 0 := by omega
    rcases hs : sketchR (textG l).toks with ⟨_ | s, j⟩
    · exact .inl (show (50 : Int) ≠ 0 by decide)
    · exact .inr ⟨h0, s, j, rfl⟩
theorem fitsX_of {x : Itm} (h : Fits x) : FitsX x := ⟨fits_of h.frm.1, fits_of h.to.1, fun n hn => fits_of (h.nums n hn).1⟩
theorem Tab.on5 {w W : World} (h : Tab w.heap.size w) (hb : Below w.heap.size w W) : Tab W.heap.size W := fun w' h' => h w' (hb.trans (h'.mono hb.size))
set_option maxRecDepth 100000 in
set_option maxHeartbeats 4000000 in
theorem again_no (l : List UInt8) (w : World) (hE : Env w) (hT : Tab w.heap.size w) (h : (faultO l).1 ≠ 0) : Calls Tryd.prog 4 #[.string (str l)] w fun e w' => e = .returned (.bool true) ∧ Below w.heap.size w w' := by
  have A1 := hidden (parse_no w hE h)
  have AW : Hid (∀ W, Below w.heap.size w W → Calls Tryd.prog 10 #[] W fun e w' => e = .returned (.bool true) ∧ Below W.heap.size W w') := fun W hb => awake5 W (hE.below hb) (hT.on5 hb)
  generalize faultO l = F at *
  obtain ⟨er, pl⟩ := F
  simp only at h A1
  have x1 : (er == 0) = false := by simpa using h
  have x2 : (er != 0) = true := by simpa using h
  have s1 := str_nil
  clear hE hT h
  go_enter Tryd.func4, Tryd.ntmps4
  go_wp2_with (first
    | (go_at_call 10; (with_reducible refine (AW.out _ (B2.out _ _)).mono ?_); rintro e w3 ⟨rfl, b3⟩; have B3 := hidden ((B2.out _ _).trans (b3.mono (B2.out _ _).size)); have z0 : w3.cell? ⟨w1.heap.size, 0, none⟩ = some (.string ⟨#[]⟩) := cell_keep b3 (by simp); have z1 : w3.cell? ⟨w1.heap.size, 1, none⟩ = some (.slice none 0 0) := cell_keep b3 (by simp); clear b3)
    | (go_at_call 11; (with_reducible refine A1.out.mono ?_); rintro e w1 ⟨rfl, b1⟩; have B2 : Hid (∀ o1 o2, Below w.heap.size w ((w1.alloc o1).alloc o2)) := fun o1 o2 => b1.trans ((((Below.refl _ _).alloc (Nat.le_refl _) o1).alloc (by simp) o2).mono b1.size); clear b1))
  go_ret
  exact ⟨rfl, B3.out⟩
set_option maxRecDepth 100000 in
set_option maxHeartbeats 4000000 in
theorem again_long (l : List UInt8) (w : World) (hE : Env w) (hT : Tab w.heap.size w) (h : (textG l).err = 0) (s : Skt) (j : Nat) (hs : sketchR (textG l).toks = (some s, j)) (hlong : 1048576 < (formX s.name s.items).length) : Calls Tryd.prog 4 #[.string (str l)] w fun e w' => e = .returned (.bool true) ∧ Below w.heap.size w w' := by
  have A1 := hidden (parse_yes w hE h hs)
  have AW : Hid (∀ W, Below w.heap.size w W → Calls Tryd.prog 10 #[] W fun e w' => e = .returned (.bool true) ∧ Below W.heap.size W w') := fun W hb => awake5 W (hE.below hb) (hT.on5 hb)
  obtain ⟨hn, hx, hlen⟩ := text_right h hs
  have hit := text_items h hs
  have hfit := text_fits hs
  have A2 : Hid (∀ V a c L, Below w.heap.size w V → s.items = L.map Prod.fst → L.length = s.items.length → ItR V a L → Calls Tryd.prog 8 #[.agg #[.string (str s.name), .slice a s.items.length c]] V fun e w' => e = .returned (.tuple #[.string ⟨#[]⟩, .int .i64 2]) ∧ Below V.heap.size V w') := fun V a c L hb h3 hl hi => by
    have := print_any s.name a s.items.length c L V hl hi hit (fun p hp => hfit p.1 (by rw [h3]; exact List.mem_map_of_mem hp)) (hT.on5 hb)
    rw [print_items, ← h3] at this
    have e : printX s.name s.items = ([], 2) := by
      unfold printX
      rw [if_pos (by rw [hn, Bool.and_true, List.all_eq_true]; exact fun x q => (hx x q).1), if_pos hlong]
    rw [e] at this
    exact this
  have hz : (262144 : Int) < (l.length : Int) := by
    have : (formX s.name s.items).length ≤ 4 * l.length := hlen
    omega
  have hsz := str_size l
  have s1 := str_nil
  clear hE hT h hs hlong hn hx hlen hit hfit
  generalize s.items = its at *
  generalize s.name = nm at *
  go_enter Tryd.func4, Tryd.ntmps4
  go_wp2_with (first
    | (go_at_call 10; (with_reducible refine (AW.out _ B3.out).mono ?_); rintro e w4 ⟨rfl, b4⟩)
    | (go_at_call 8; (with_reducible refine (A2.out _ _ _ L (B2.out _ _) H3.out HL.out (I2.out _ _)).mono ?_); rintro e w3 ⟨rfl, b3⟩; have B3 := hidden ((B2.out _ _).trans (b3.mono (B2.out _ _).size)); clear b3)
    | (go_at_call 11; (with_reducible refine A1.out.mono ?_); rintro e w1 ⟨a, c, L, rfl, h3, hl, hi, -, b1⟩; have H3 := hidden h3; have HL := hidden hl; clear h3 hl; have N2 : Hid (∀ o1 o2, Below w1.heap.size w1 ((w1.alloc o1).alloc o2)) := fun o1 o2 => ((Below.refl _ _).alloc (Nat.le_refl _) o1).alloc (by simp) o2; have B2 : Hid (∀ o1 o2, Below w.heap.size w ((w1.alloc o1).alloc o2)) := fun o1 o2 => b1.trans ((N2.out o1 o2).mono b1.size); have I2 : Hid (∀ o1 o2, ItR ((w1.alloc o1).alloc o2) a L) := fun o1 o2 => hi.below (N2.out o1 o2); clear hi b1))
  go_ret
  exact ⟨by first | rfl | simp, B3.out.trans (b4.mono B3.out.size)⟩
set_option maxRecDepth 100000 in
set_option maxHeartbeats 4000000 in
theorem again_yes (l : List UInt8) (w : World) (hE : Env w) (hT : Tab w.heap.size w) (h : (textG l).err = 0) (s : Skt) (j : Nat) (hs : sketchR (textG l).toks = (some s, j)) (hlong : ¬ 1048576 < (formX s.name s.items).length) : Calls Tryd.prog 4 #[.string (str l)] w fun e w' => e = .returned (.bool true) ∧ Below w.heap.size w w' := by
  have A1 := hidden (parse_yes w hE h hs)
  have AW : Hid (∀ W, Below w.heap.size w W → Calls Tryd.prog 10 #[] W fun e w' => e = .returned (.bool true) ∧ Below W.heap.size W w') := fun W hb => awake5 W (hE.below hb) (hT.on5 hb)
  obtain ⟨hn, hx, hlen⟩ := text_right h hs
  have hit := text_items h hs
  have hfit := text_fits hs
  have A2 : Hid (∀ V a c L, Below w.heap.size w V → s.items = L.map Prod.fst → L.length = s.items.length → ItR V a L → Calls Tryd.prog 8 #[.agg #[.string (str s.name), .slice a s.items.length c]] V fun e w' => e = .returned (.tuple #[.string (str (formX s.name s.items)), .int .i64 0]) ∧ Below V.heap.size V w') := fun V a c L hb h3 hl hi => by
    have := print_any s.name a s.items.length c L V hl hi hit (fun p hp => hfit p.1 (by rw [h3]; exact List.mem_map_of_mem hp)) (hT.on5 hb)
    rw [print_items, ← h3] at this
    have e : printX s.name s.items = (formX s.name s.items, 0) := by
      unfold printX
      rw [if_pos (by rw [hn, Bool.and_true, List.all_eq_true]; exact fun x q => (hx x q).1), if_neg hlong]
    rw [e] at this
    exact this
  obtain ⟨r1, s', j', r2, r3⟩ := read_form hn hx (by rw [formX_txt]; omega)
  rw [formX_txt] at r1 r2
  have en : (bareS s').name = s.name := by rw [r3]
  have ei : (bareS s').items = s.items.map bareI := by rw [r3]
  have en : s'.name = s.name := en
  have ei : s'.items.map bareI = s.items.map bareI := ei
  have el : s'.items.length = s.items.length := by have := congrArg List.length ei; simpa using this
  have A3 : Hid (∀ V, Env V → Calls Tryd.prog 11 #[.string (str (formX s.name s.items))] V fun e w' => ∃ a c L, e = .returned (.tuple #[.agg #[.string (str s.name), .slice a s.items.length c], .agg #[.int .i64 0, .int .i64 0]]) ∧ (L.map Prod.fst).map bareI = s.items.map bareI ∧ L.length = s.items.length ∧ ItR w' a L ∧ Below V.heap.size V w') := fun V hV => (parse_yes V hV r1 r2).mono fun e w' ⟨a, c, L, q1, q2, q3, q4, _, q6⟩ => by
      rw [en, el] at q1
      exact ⟨a, c, L, q1, by rw [← q2, ei], by rw [q3, el], q4, q6⟩
  have AL : Hid (∀ V a1 a2 c1 c2 L M, s.items = L.map Prod.fst → L.length = s.items.length → (M.map Prod.fst).map bareI = s.items.map bareI → M.length = s.items.length → ItR V a1 L → ItR V a2 M → Calls Tryd.prog 12 #[.agg #[.string (str s.name), .slice a1 s.items.length c1], .agg #[.string (str s.name), .slice a2 s.items.length c2]] V fun e w' => e = .returned (.bool true) ∧ Below V.heap.size V w') := fun V a1 a2 c1 c2 L M q1 q2 q3 q4 q5 q6 =>
    alike_any s.name a1 a2 s.items.length c1 c2 L M V q2 q4 (by rw [q3, ← q1]) q5 q6 hit (fun p hp => (hfit p.1 (by rw [q1]; exact List.mem_map_of_mem hp)).len)
  have HE : Hid (∀ W, Below w.heap.size w W → Env W) := fun W hb => hE.below hb
  clear hE hT h hs hlong hn hx hlen hit hfit r1 r2 r3 en ei el
  generalize formX s.name s.items = FT at *
  generalize s.items = its at *
  generalize s.name = nm at *
  go_enter Tryd.func4, Tryd.ntmps4
  go_wp2_with (first
    | (go_at_call 12; (with_reducible refine (AL.out _ _ _ _ _ L M H3.out HL.out G3.out GL.out ((I5.out _ _).below B5.out) ((J5.out _ _).below B5.out)).mono ?_); rintro e w6 ⟨rfl, b6⟩)
    | (go_at_call 10; (with_reducible refine (AW.out _ (B4.out _ _)).mono ?_); rintro e w5 ⟨rfl, b5⟩; have B5 := hidden b5; have F5 := hidden ((B4.out _ _).trans (b5.mono (B4.out _ _).size)); have y0 : w5.cell? ⟨w1.heap.size, 0, none⟩ = some (.string (str nm)) := cell_keep b5 (z0 _ _); have y1 : w5.cell? ⟨w1.heap.size, 1, none⟩ = some (.slice a its.length c) := cell_keep b5 (z1 _ _); have y2 : w5.cell? ⟨w4.heap.size, 0, none⟩ = some (.string (str nm)) := cell_keep b5 (by simp); have y3 : w5.cell? ⟨w4.heap.size, 1, none⟩ = some (.slice a' its.length c') := cell_keep b5 (by simp); have y4 : w5.cell? ⟨w4.heap.size + 1, 0, none⟩ = some (.int .i64 0) := cell_keep b5 (by simp); have y5 : w5.cell? ⟨w4.heap.size + 1, 1, none⟩ = some (.int .i64 0) := cell_keep b5 (by simp); clear b5)
    | (go_at_call 8; (with_reducible refine (A2.out _ _ _ L (B2.out _ _) H3.out HL.out (I2.out _ _)).mono ?_); rintro e w3 ⟨rfl, b3⟩; have B3 := hidden ((B2.out _ _).trans (b3.mono (B2.out _ _).size)); have I3 := hidden ((I2.out _ _).below b3); have x0 : w3.cell? ⟨w1.heap.size, 0, none⟩ = some (.string (str nm)) := cell_keep b3 (by simp); have x1 : w3.cell? ⟨w1.heap.size, 1, none⟩ = some (.slice a its.length c) := cell_keep b3 (by simp); clear b3)
    | (go_at_call 11; (with_reducible refine (A3.out w3 (HE.out _ B3.out)).mono ?_); rintro e w4 ⟨a', c', M, rfl, g3, gl, gi, b4⟩; have G3 := hidden g3; have GL := hidden gl; clear g3 gl; have z0 := later2 b4 x0; have z1 := later2 b4 x1; have N4 : Hid (∀ o1 o2, Below w4.heap.size w4 ((w4.alloc o1).alloc o2)) := fun o1 o2 => ((Below.refl _ _).alloc (Nat.le_refl _) o1).alloc (by simp) o2; have B4 : Hid (∀ o1 o2, Below w.heap.size w ((w4.alloc o1).alloc o2)) := fun o1 o2 => by { have q := B3.out.trans (b4.mono B3.out.size); exact q.trans ((N4.out o1 o2).mono q.size) }; have I5 : Hid (∀ o1 o2, ItR ((w4.alloc o1).alloc o2) a L) := fun o1 o2 => (I3.out.below b4).below (N4.out o1 o2); have J5 : Hid (∀ o1 o2, ItR ((w4.alloc o1).alloc o2) a' M) := fun o1 o2 => gi.below (N4.out o1 o2); clear gi b4 x0 x1)
    | (go_at_call 11; (with_reducible refine A1.out.mono ?_); rintro e w1 ⟨a, c, L, rfl, h3, hl, hi, -, b1⟩; have H3 := hidden h3; have HL := hidden hl; clear h3 hl; have N2 : Hid (∀ o1 o2, Below w1.heap.size w1 ((w1.alloc o1).alloc o2)) := fun o1 o2 => ((Below.refl _ _).alloc (Nat.le_refl _) o1).alloc (by simp) o2; have B2 : Hid (∀ o1 o2, Below w.heap.size w ((w1.alloc o1).alloc o2)) := fun o1 o2 => b1.trans ((N2.out o1 o2).mono b1.size); have I2 : Hid (∀ o1 o2, ItR ((w1.alloc o1).alloc o2) a L) := fun o1 o2 => hi.below (N2.out o1 o2); clear hi b1))
  go_ret
  exact ⟨by first | rfl | simp, F5.out.trans (b6.mono F5.out.size)⟩
theorem sketchAgain_walk (l : List UInt8) (w : World) (hE : Env w) (hT : Tab w.heap.size w) : Calls Tryd.prog 4 #[.string (str l)] w fun e w' => e = .returned (.bool true) ∧ Below w.heap.size w w' := by
  rcases fault_cases l with h | ⟨h, s, j, hs⟩
  · exact again_no l w hE hT h
  · by_cases hl : 1048576 < (formX s.name s.items).length
    · exact again_long l w hE hT h s j hs hl
    · exact again_yes l w hE hT h s j hs hl
end Go.Proofs.YtlnodnkfagehgaaDoor

/- A sketch that comes in: whether it is heavy. -/
namespace Go.Proofs.YtlnodnkfagehgaaDoor
open Go.ChangeShapes Go.WideShapes Go.ChangeAt Go.RowKit

/-- What a walk is told of a sketch's items that came in. -/
structure ArgS (w : World) (a : Option Addr) (n : Nat) (L : List (Itm × Value)) : Prop where
  size : L.length = n
  lies : ItR w a L
  reach : n ≤ 140737488351232
  nums : ∀ p ∈ L, p.1.nums.length ≤ 140737488351232
  shp : ∀ p ∈ L, ∃ b d, p.2 = .slice b p.1.nums.length d ∧ (b = none → p.1.nums.length = 0 ∧ d = 0) ∧ p.1.nums.length ≤ d
  fits : ∀ p ∈ L, (-9223372036854775808 ≤ p.1.frm.port ∧ p.1.frm.port ≤ 9223372036854775807) ∧ (-9223372036854775808 ≤ p.1.to.port ∧ p.1.to.port ≤ 9223372036854775807) ∧ ∀ x ∈ p.1.nums, -9223372036854775808 ≤ x ∧ x ≤ 9223372036854775807
theorem ArgS.below {w w' a n L} (h : ArgS w a n L) (hb : Below w.heap.size w w') : ArgS w' a n L := ⟨h.size, h.lies.below hb, h.reach, h.nums, h.shp, h.fits⟩
def HeavyEnd (w : World) (n : Nat) (L : List (Itm × Value)) (e : Ending) (w' : World) : Prop := ∃ b, e = .returned (.bool b) ∧ (b = false → n ≤ 1048576 ∧ ∀ p ∈ L, p.1.nums.length ≤ 1048576) ∧ Below w.heap.size w w'
set_option maxRecDepth 100000 in
set_option maxHeartbeats 4000000 in
theorem heavy_any (nm : List UInt8) (a : Option Addr) (n c : Nat) (L : List (Itm × Value)) (w : World) (h : ArgS w a n L) :
    Calls Tryd.prog 7 #[.agg #[.string (str nm), .slice a n c]] w (HeavyEnd w n L) := by
  have hb0 := (Below.refl w.heap.size w).alloc (Nat.le_refl _) (.cells #[.string (str nm), .slice a n c] 24)
  have HB0 := hidden hb0
  have HK0 := hidden (blk_new 24 w #[.string (str nm), .slice a n c])
  have HA0 := hidden (h.below hb0)
  have hn := h.size
  have hr := h.reach
  have hnI : (n : Int) ≤ 140737488351232 := by omega
  clear h hb0
  go_enter Tryd.func7, Tryd.ntmps7
  go_wp2
  go_loopg [3, 4] n (fun gk sv v wr => ∃ (k s : Nat), k ≤ n ∧ gk = n - k ∧ v = .int .i64 (k : Int) ∧ sv = .int .i64 (s : Int) ∧ n ≤ s ∧ s ≤ 562949953421312 ∧ (∀ j, j < k → (nthI L j).1.nums.length ≤ s) ∧ Below w.heap.size w wr ∧ Blk 24 w.heap.size wr #[.string (str nm), .slice a n c] ∧ ArgS wr a n L)
  case atStart => exact ⟨0, n, Nat.zero_le _, rfl, rfl, rfl, Nat.le_refl _, by omega, fun j hj => by omega, HB0.out, HK0.out, HA0.out⟩
  case round =>
    clear HB0 HK0 HA0
    obtain ⟨k, s, hk, rfl, rfl, rfl, hns, hs, hall, hbe, hbk, hA⟩ := hrel
    have HBE := hidden hbe
    have HBK := hidden hbk
    have HA := hidden hA
    have HALL := hidden hall
    have y1 : wr.cell? ⟨w.heap.size, 1, none⟩ = some (.slice a n c) := hbk.cell (k := 1) rfl
    clear hbe hbk hA hall
    have hsI : (s : Int) ≤ 562949953421312 := by omega
    by_cases hlt : k < n ∧ s ≤ 1048576
    · obtain ⟨hlt, hs2⟩ := hlt
      have hki : (k : Int) < (n : Int) := by omega
      have hsj : (s : Int) ≤ 1048576 := by omega
      rcases HA.out.lies.lie with e | ⟨g, off, rfl, hc⟩
      · rw [e] at hn; simp at hn; omega
      have c3 := (hc k (by omega)).c3
      obtain ⟨a1, k1, e2, -⟩ := HA.out.lies.nums _ (nthI_mem (L := L) (k := k) (by omega))
      rw [e2] at c3
      have hm := HA.out.nums _ (nthI_mem (L := L) (k := k) (by omega))
      have HAL2 : Hid (∀ j, j < k + 1 → (nthI L j).1.nums.length ≤ s + (nthI L k).1.nums.length) := fun j hj => by
        by_cases e : j < k
        · have := HALL.out j e; omega
        · have : j = k := by omega
          subst this; omega
      clear hc e2
      generalize hm2 : (nthI L k).1.nums.length = m at *
      have hmI : (m : Int) ≤ 140737488351232 := by omega
      have hs0 : (0 : Int) ≤ (s : Int) := by omega
      have hm0 : (0 : Int) ≤ (m : Int) := by omega
      go_wp2
      go_roundg (n - (k + 1))
      case measure => omega
      case rel => exact ⟨k + 1, s + m, by omega, rfl, by go_num, by go_num, by omega, by omega, HAL2.out, HBE.out, HBK.out, HA.out⟩
    · by_cases hkn : k < n
      · have hki : (k : Int) < (n : Int) := by omega
        have hsj : ¬ ((s : Int) ≤ 1048576) := by omega
        have hsk : (s : Int) > 1048576 := by omega
        go_wp2
        go_ret
        exact ⟨true, by first | rfl | (simp; omega), (fun e => by cases e), HBE.out⟩
      · have ek : k = n := by omega
        subst ek
        have hki : ¬ ((k : Int) < (k : Int)) := by omega
        by_cases hs3 : s ≤ 1048576
        · have hsk : ¬ ((s : Int) > 1048576) := by omega
          go_wp2
          go_ret
          refine ⟨false, by first | rfl | (simp; omega), fun _ => ⟨by omega, fun p hp => ?_⟩, HBE.out⟩
          obtain ⟨j, hj, rfl⟩ := List.mem_iff_getElem.1 hp
          have := HALL.out j (by omega)
          have e : nthI L j = L[j] := by unfold nthI; rw [List.getD_eq_getElem?_getD, List.getElem?_eq_getElem hj]; rfl
          rw [e] at this
          omega
        · have hsk : (s : Int) > 1048576 := by omega
          go_wp2
          go_ret
          exact ⟨true, by first | rfl | (simp; omega), (fun e => by cases e), HBE.out⟩
end Go.Proofs.YtlnodnkfagehgaaDoor
