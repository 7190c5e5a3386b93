/- Texts of one chain, laid one behind the other. -/
import Derived.Test.YtlnodnkfagehgabDoorChain31
/- The walk through the statement SketchAgain. -/
namespace Go.Proofs.YtlnodnkfagehgabDoor
open Go.ChangeShapes Go.WideShapes Go.ChangeAt Go.RowKit

theorem formX_txt (nm : List UInt8) (xs : List Itm) : txtP (formQ nm xs) = formX nm xs := by
  have h := txt_form nm (xs.map fun x => (x, Value.slice none 0 0))
  rw [form_items, List.map_map, show ((fun x : Itm × Value => x.1) ∘ fun x : Itm => (x, Value.slice none 0 0)) = id from rfl, List.map_id] at h
  exact h
theorem text_items {l : List UInt8} {s : Skt} {j : Nat} (h : (textG l).err = 0) (hs : sketchR (textG l).toks = (some s, j)) : s.items.length ≤ 2000000 := by
  obtain ⟨hl, hL⟩ := text_laid h
  obtain ⟨⟨r, hr⟩, -⟩ := took_sketch (laid_fine _ _ hL (text_ended h)) hs
  have h1 := congrArg List.length hr
  rw [List.length_map, List.length_append] at h1
  have h2 := items_len s.items
  have h3 : (s.items.flatMap itemU).length ≤ (formU s.name s.items).length := by
    unfold formU
    simp only [List.length_cons, List.length_append]
    omega
  have := text_len5 l
  omega
/-- A text's fault, if it is refused. -/
def faultO (l : List UInt8) : Int × Int := if (textG l).err ≠ 0 then ((textG l).err, (textG l).place) else match sketchR (textG l).toks with
  | (none, j) => (50, (nthT (textG l).toks j).place)
  | (some _, _) => (0, 0)
/-- A text that is refused. -/
theorem parse_no {l : List UInt8} (W : World) (hE : Env W) (h : (faultO l).1 ≠ 0) : Calls Tryd.prog 5 #[.string (str l)] W fun e w' => e = .returned (.tuple #[.agg #[.string ⟨#[]⟩, .slice none 0 0], .agg #[.int .i64 (faultO l).1, .int .i64 (faultO l).2]]) ∧ Below W.heap.size W w' := by
  refine (parse_any l W hE).mono ?_
  rintro e w' ⟨hh, hb⟩
  refine ⟨?_, hb⟩
  unfold faultO at h ⊢
  rcases hh with ⟨h1, rfl⟩ | ⟨h1, j, h2, rfl⟩ | ⟨h1, s, j, a, c, L, h2, -⟩
  · rw [if_pos h1]
  · rw [if_neg (by simp [h1]), h2]
  · rw [if_neg (by simp [h1]), h2] at h
    exact absurd rfl h
/-- A text that is read. -/
theorem parse_yes {l : List UInt8} {s : Skt} {j : Nat} (W : World) (hE : Env W) (h : (textG l).err = 0) (hs : sketchR (textG l).toks = (some s, j)) : Calls Tryd.prog 5 #[.string (str l)] W fun e w' => ∃ a c L, e = .returned (.tuple #[.agg #[.string (str s.name), .slice a s.items.length c], .agg #[.int .i64 0, .int .i64 0]]) ∧ s.items = L.map Prod.fst ∧ L.length = s.items.length ∧ ItR w' a L ∧ Its W.heap.size w' (.slice a s.items.length c) L ∧ Below W.heap.size W w' := by
  refine (parse_any l W hE).mono ?_
  rintro e w' ⟨hh, hb⟩
  rcases hh with ⟨h1, -⟩ | ⟨-, j2, h2, -⟩ | ⟨-, s2, j2, a, c, L, h2, rfl, h3, h4⟩
  · exact absurd h h1
  · rw [hs] at h2; cases h2
  · rw [hs] at h2
    injection h2 with h5 h6
    have h5 := Option.some.inj h5
    subst h5
    have hl : L.length = s.items.length := by rw [h3, List.length_map]
    refine ⟨a, c, L, rfl, h3, hl, ?_, h4, hb⟩
    rw [← hl] at h4
    exact h4.at5
theorem fault_cases (l : List UInt8) : (faultO l).1 ≠ 0 ∨ ((textG l).err = 0 ∧ ∃ s j, sketchR (textG l).toks = (some s, j)) := by
  unfold faultO
  by_cases h : (textG l).err ≠ 0
  · rw [if_pos h]; exact .inl h
  · rw [if_neg h]
    have h0 : (textG l).err = 0 := by omega
    rcases hs : sketchR (textG l).toks with ⟨_ | s, j⟩
    · exact .inl (show (50 : Int) ≠ 0 by decide)
    · exact .inr ⟨h0, s, j, rfl⟩
theorem fitsX_of {x : Itm} (h : Fits x) : FitsX x := ⟨fits_of h.frm.1, fits_of h.to.1, fun n hn => fits_of (h.nums n hn).1⟩
theorem Tab.on5 {w W : World} (h : Tab w.heap.size w) (hb : Below w.heap.size w W) : Tab W.heap.size W := fun w' h' => h w' (hb.trans (h'.mono hb.size))
end Go.Proofs.YtlnodnkfagehgabDoor

/- The walk through the closed statement SketchNames. (Written by tmpl/mkSN.py.) -/
namespace Go.Proofs.YtlnodnkfagehgabDoor
open Go.ChangeShapes Go.WideShapes Go.ChangeAt Go.RowKit

def namesT : List UInt8 := [103, 114, 97, 112, 104, 32, 103, 123, 97, 99, 116, 111, 114, 32, 97, 61, 98, 59, 101, 100, 103, 101, 32, 97, 46, 48, 45, 62, 98, 46, 48, 59, 105, 110, 32, 120, 45, 62, 97, 46, 48, 59, 111, 117, 116, 32, 97, 46, 48, 45, 62, 121, 59, 125]
def namesI : List Itm := [⟨1, [97], [98], [], noPlc, noPlc, 8⟩, ⟨2, [], [], [], ⟨[97], 0, 23⟩, ⟨[98], 0, 28⟩, 18⟩, ⟨3, [120], [], [], noPlc, ⟨[97], 0, 38⟩, 32⟩, ⟨4, [121], [], [], ⟨[97], 0, 46⟩, noPlc, 42⟩]
theorem names1 : (textG namesT).err = 0 ∧ (sketchR (textG namesT).toks).1 = some ⟨[103], namesI⟩ := by refine ⟨?_, ?_⟩ <;> kernel_rfl
theorem names2 : faultO [] = (50, 0) := by kernel_rfl
def itm5 : Itm := ⟨5, [], [], [], noPlc, noPlc, 0⟩
def itm4 : Itm := ⟨4, [121], [], [], ⟨[97], 0, 0⟩, noPlc, 0⟩
theorem names3 : printX [103] [itm5] = ([], 1) := by kernel_rfl
theorem names4 : (printX [103] [itm4]).2 = 0 := by kernel_rfl
theorem it_new (V : World) (ty : TypeId) (ki : Int) (nm tg fn tn : List UInt8) (fp fa tp ta pl : Int) :
    ItR (V.alloc (.cells #[.int .u8 ki, .string (str nm), .string (str tg), .slice none 0 0, .string (str fn), .int .i64 fp, .int .i64 fa, .string (str tn), .int .i64 tp, .int .i64 ta, .int .i64 pl] ty)) (some ⟨V.heap.size, 0, none⟩) [(⟨ki, nm, tg, [], ⟨fn, fp, fa⟩, ⟨tn, tp, ta⟩, pl⟩, .slice none 0 0)] := by
  refine ⟨.inr ⟨_, _, rfl, fun k hk => ?_⟩, fun p hp => ?_⟩
  · have e : k = 0 := by simp at hk; exact hk
    subst e
    exact ⟨by simp [nthI], by simp [nthI], by simp [nthI], by simp [nthI], by simp [nthI], by simp [nthI], by simp [nthI], by simp [nthI], by simp [nthI], by simp [nthI], by simp [nthI]⟩
  · have e : p = (⟨ki, nm, tg, [], ⟨fn, fp, fa⟩, ⟨tn, tp, ta⟩, pl⟩, .slice none 0 0) := by simpa using hp
    subst e
    exact ⟨none, 0, rfl, .inl rfl⟩
theorem fits_0 : Small 0 := small_of ⟨by decide, by decide⟩
theorem print5 (V : World) (ty : TypeId) (hT : Tab (V.alloc (.cells #[.int .u8 5, .string ⟨#[]⟩, .string ⟨#[]⟩, .slice none 0 0, .string ⟨#[]⟩, .int .i64 0, .int .i64 0, .string ⟨#[]⟩, .int .i64 0, .int .i64 0, .int .i64 0] ty)).heap.size (V.alloc (.cells #[.int .u8 5, .string ⟨#[]⟩, .string ⟨#[]⟩, .slice none 0 0, .string ⟨#[]⟩, .int .i64 0, .int .i64 0, .string ⟨#[]⟩, .int .i64 0, .int .i64 0, .int .i64 0] ty))) :
    Calls Tryd.prog 9 #[.agg #[.string ⟨#[103]⟩, .slice (some ⟨V.heap.size, 0, none⟩) 1 1]] (V.alloc (.cells #[.int .u8 5, .string ⟨#[]⟩, .string ⟨#[]⟩, .slice none 0 0, .string ⟨#[]⟩, .int .i64 0, .int .i64 0, .string ⟨#[]⟩, .int .i64 0, .int .i64 0, .int .i64 0] ty)) fun e w' => ∃ tx, e = .returned (.tuple #[.string tx, .int .i64 1]) ∧ Below V.heap.size V w' := by
  have h := print_any [103] (some ⟨V.heap.size, 0, none⟩) 1 1 [(itm5, .slice none 0 0)] _ rfl (it_new V ty 5 [] [] [] [] 0 0 0 0 0) (by decide) (fun p hp => by
    have e : p = (itm5, .slice none 0 0) := by simpa using hp
    subst e
    show Fits itm5
    exact ⟨fits_0, fits_0, (fun n hn => by cases hn), by decide⟩) hT
  rw [print_items, show [(itm5, Value.slice none 0 0)].map Prod.fst = [itm5] from rfl, names3] at h
  exact h.mono fun _ _ ⟨h1, h2⟩ => ⟨_, h1, ((Below.refl V.heap.size V).alloc (Nat.le_refl _) _).trans (h2.mono (by simp))⟩
theorem print4 (V : World) (ty : TypeId) (hT : Tab (V.alloc (.cells #[.int .u8 4, .string ⟨#[121]⟩, .string ⟨#[]⟩, .slice none 0 0, .string ⟨#[97]⟩, .int .i64 0, .int .i64 0, .string ⟨#[]⟩, .int .i64 0, .int .i64 0, .int .i64 0] ty)).heap.size (V.alloc (.cells #[.int .u8 4, .string ⟨#[121]⟩, .string ⟨#[]⟩, .slice none 0 0, .string ⟨#[97]⟩, .int .i64 0, .int .i64 0, .string ⟨#[]⟩, .int .i64 0, .int .i64 0, .int .i64 0] ty))) :
    Calls Tryd.prog 9 #[.agg #[.string ⟨#[103]⟩, .slice (some ⟨V.heap.size, 0, none⟩) 1 1]] (V.alloc (.cells #[.int .u8 4, .string ⟨#[121]⟩, .string ⟨#[]⟩, .slice none 0 0, .string ⟨#[97]⟩, .int .i64 0, .int .i64 0, .string ⟨#[]⟩, .int .i64 0, .int .i64 0, .int .i64 0] ty)) fun e w' => ∃ tx, e = .returned (.tuple #[.string tx, .int .i64 0]) ∧ Below V.heap.size V w' := by
  have h := print_any [103] (some ⟨V.heap.size, 0, none⟩) 1 1 [(itm4, .slice none 0 0)] _ rfl (it_new V ty 4 [121] [] [97] [] 0 0 0 0 0) (by decide) (fun p hp => by
    have e : p = (itm4, .slice none 0 0) := by simpa using hp
    subst e
    show Fits itm4
    exact ⟨fits_0, fits_0, (fun n hn => by cases hn), by decide⟩) hT
  rw [print_items, show [(itm4, Value.slice none 0 0)].map Prod.fst = [itm4] from rfl, names4] at h
  exact h.mono fun _ _ ⟨h1, h2⟩ => ⟨_, h1, ((Below.refl V.heap.size V).alloc (Nat.le_refl _) _).trans (h2.mono (by simp))⟩
theorem later3 {W w' : World} (hb : Below W.heap.size W w') {p : Addr} {x : Value} (h : W.cell? p = some x) : ∀ o, (w'.alloc o).cell? p = some x := fun o => cell_keep ((Below.refl _ _).alloc (Nat.le_refl _) o) (cell_keep hb h)
set_option maxRecDepth 100000 in
set_option maxHeartbeats 4000000 in
theorem sketchNames_walk (w : World) (hE : Env w) (hT : Tab w.heap.size w) : Calls Tryd.prog 4 #[] w fun e w' => e = .returned (.bool true) ∧ Below w.heap.size w w' := by
  have A1 : Hid (Calls Tryd.prog 5 #[.string ⟨#[]⟩] w fun e w' => e = .returned (.tuple #[.agg #[.string ⟨#[]⟩, .slice none 0 0], .agg #[.int .i64 50, .int .i64 0]]) ∧ Below w.heap.size w w') := by
    have := parse_no (l := []) w hE (by rw [names2]; decide)
    rw [names2] at this
    exact this
  have A2 : Hid (∀ V ty N, Below w.heap.size w V → N = V.heap.size → Calls Tryd.prog 9 #[.agg #[.string ⟨#[103]⟩, .slice (some ⟨N, 0, none⟩) 1 1]] (V.alloc (.cells #[.int .u8 5, .string ⟨#[]⟩, .string ⟨#[]⟩, .slice none 0 0, .string ⟨#[]⟩, .int .i64 0, .int .i64 0, .string ⟨#[]⟩, .int .i64 0, .int .i64 0, .int .i64 0] ty)) fun e w' => ∃ tx, e = .returned (.tuple #[.string tx, .int .i64 1]) ∧ Below V.heap.size V w') := fun V ty N hb hN => by rw [hN]; exact print5 V ty (hT.on5 (hb.alloc hb.size _))
  have A3 : Hid (∀ V ty, Below w.heap.size w V → Calls Tryd.prog 9 #[.agg #[.string ⟨#[103]⟩, .slice (some ⟨V.heap.size, 0, none⟩) 1 1]] (V.alloc (.cells #[.int .u8 4, .string ⟨#[121]⟩, .string ⟨#[]⟩, .slice none 0 0, .string ⟨#[97]⟩, .int .i64 0, .int .i64 0, .string ⟨#[]⟩, .int .i64 0, .int .i64 0, .int .i64 0] ty)) fun e w' => ∃ tx, e = .returned (.tuple #[.string tx, .int .i64 0]) ∧ Below V.heap.size V w') := fun V ty hb => print4 V ty (hT.on5 (hb.alloc hb.size _))
  have A4 : Hid (∀ V, Env V → Calls Tryd.prog 5 #[.string ⟨#[103, 114, 97, 112, 104, 32, 103, 123, 97, 99, 116, 111, 114, 32, 97, 61, 98, 59, 101, 100, 103, 101, 32, 97, 46, 48, 45, 62, 98, 46, 48, 59, 105, 110, 32, 120, 45, 62, 97, 46, 48, 59, 111, 117, 116, 32, 97, 46, 48, 45, 62, 121, 59, 125]⟩] V fun e w' => ∃ g c, e = .returned (.tuple #[.agg #[.string ⟨#[103]⟩, .slice (some ⟨g, 0, none⟩) 4 c], .agg #[.int .i64 0, .int .i64 0]]) ∧ w'.cell? ⟨g, 0, none⟩ = some (.int .u8 1) ∧ w'.cell? ⟨g, 11, none⟩ = some (.int .u8 2) ∧ w'.cell? ⟨g, 22, none⟩ = some (.int .u8 3) ∧ w'.cell? ⟨g, 33, none⟩ = some (.int .u8 4) ∧ Below V.heap.size V w') := fun V hV => by
    obtain ⟨k1, k2⟩ := names1
    rcases hs : sketchR (textG namesT).toks with ⟨s, j⟩
    rw [hs] at k2
    simp only at k2
    subst k2
    refine (parse_yes (l := namesT) V hV k1 hs).mono ?_
    rintro e w' ⟨a, c, L, rfl, h3, hl, hi, hr, hb⟩
    rcases hr.row.2 with ⟨hv, -⟩ | ⟨g, cap, cur, hv, -⟩
    · cases hv
    · obtain rfl : a = some ⟨g, 0, none⟩ := by injection hv
      clear hv
      have hlen : L.length = 4 := hl
      have hn : ∀ k, k < 4 → (nthI L k).1.kind = (namesI.getD k noItm).kind := fun k hk => by
        have e1 : (L.map Prod.fst).getD k noItm = (nthI L k).1 := by
          unfold nthI
          rw [List.getD_eq_getElem?_getD, List.getD_eq_getElem?_getD, List.getElem?_map]
          cases L[k]? <;> rfl
        rw [← e1, ← h3]
      rcases hi.lie with h0 | ⟨g2, off, e2, hc⟩
      · rw [h0] at hlen; cases hlen
      · cases e2
        have q : ∀ k, k < 4 → w'.cell? ⟨g, 0 + k * 11, none⟩ = some (.int .u8 (namesI.getD k noItm).kind) := fun k hk => by
          rw [← hn k hk]; exact (hc k (by omega)).c0
        exact ⟨g, _, rfl, q 0 (by decide), q 1 (by decide), q 2 (by decide), q 3 (by decide), hb⟩
  have AW : Hid (∀ W, Below w.heap.size w W → Calls Tryd.prog 6 #[] W fun e w' => e = .returned (.bool true) ∧ Below W.heap.size W w') := fun W hb => awake5 W (hE.below hb) (hT.on5 hb)
  have HE : Hid (∀ W, Below w.heap.size w W → Env W) := fun W hb => hE.below hb
  clear hE hT
  go_enter Tryd.func4, Tryd.ntmps4
  go_wp2_with (first
    | (go_at_call 6; (with_reducible refine (AW.out _ (B5.out _ _)).mono ?_); rintro e w6 ⟨rfl, b6⟩; have B6 := hidden ((B5.out _ _).trans (b6.mono (B5.out _ _).size)); have u0 : w6.cell? ⟨w1.heap.size + 1, 0, none⟩ = some (.int .i64 50) := cell_keep b6 (y0 _ _); have u1 : w6.cell? ⟨w1.heap.size + 1, 1, none⟩ = some (.int .i64 0) := cell_keep b6 (y1 _ _); have u2 : w6.cell? ⟨w4.heap.size + 1, 0, none⟩ = some (.int .i64 0) := cell_keep b6 (by simp); have u3 : w6.cell? ⟨w4.heap.size + 1, 1, none⟩ = some (.int .i64 0) := cell_keep b6 (by simp); clear b6)
    | (go_at_call 5; (with_reducible refine (A4.out w3 (HE.out _ B3.out)).mono ?_); rintro e w4 ⟨g, c, rfl, k0, k1, k2, k3, b4⟩; have y0 := later2 b4 z0; have y1 := later2 b4 z1; have j0 := later2 (Below.refl _ _) k0; have j1 := later2 (Below.refl _ _) k1; have j2 := later2 (Below.refl _ _) k2; have j3 := later2 (Below.refl _ _) k3; have B5 : Hid (∀ o1 o2, Below w.heap.size w ((w4.alloc o1).alloc o2)) := fun o1 o2 => by { have q := B3.out.trans (b4.mono B3.out.size); exact q.trans ((((Below.refl _ _).alloc (Nat.le_refl _) o1).alloc (by simp) o2).mono q.size) }; clear k0 k1 k2 k3 b4 z0 z1)
    | (go_at_call 9; (with_reducible refine (A3.out w2 _ B2.out).mono ?_); rintro e w3 ⟨t3, rfl, b3⟩; have B3 := hidden (B2.out.trans (b3.mono B2.out.size)); have z0 : w3.cell? ⟨w1.heap.size + 1, 0, none⟩ = some (.int .i64 50) := cell_keep b3 x0; have z1 : w3.cell? ⟨w1.heap.size + 1, 1, none⟩ = some (.int .i64 0) := cell_keep b3 x1; clear b3 x0 x1)
    | (go_at_call 9; (with_reducible refine (A2.out _ _ _ (B1.out _ _) (by simp)).mono ?_); rintro e w2 ⟨t2, rfl, b2⟩; have B2 := hidden ((B1.out _ _).trans (b2.mono (B1.out _ _).size)); have x0 : w2.cell? ⟨w1.heap.size + 1, 0, none⟩ = some (.int .i64 50) := cell_keep b2 (by simp); have x1 : w2.cell? ⟨w1.heap.size + 1, 1, none⟩ = some (.int .i64 0) := cell_keep b2 (by simp); clear b2)
    | (go_at_call 5; (with_reducible refine A1.out.mono ?_); rintro e w1 ⟨rfl, b1⟩; have B1 : Hid (∀ o1 o2, Below w.heap.size w ((w1.alloc o1).alloc o2)) := fun o1 o2 => b1.trans ((((Below.refl _ _).alloc (Nat.le_refl _) o1).alloc (by simp) o2).mono b1.size); clear b1))
  go_ret
  exact ⟨by first | rfl | simp, B6.out⟩
end Go.Proofs.YtlnodnkfagehgabDoor
