/- Texts of one chain, laid one behind the other. -/
import Derived.Test.YthgblljokonejaaGreatDoorChain20
import Derived.Test.YthgblljokonejaaGreatDoorChain23
/- Numerals: the library's are the plain ones; numbers that fit have short ones. -/
namespace Go.Proofs.YthgblljokonejaaGreatDoor
open Go.ChangeShapes Go.WideShapes Go.ChangeAt Go.RowKit

theorem dec_nat : ∀ (m u : Nat), u ≤ m → u ≠ 0 → Lib.decDigits u = natS u
  | 0, u, h, h0 => by omega
  | m + 1, u, h, h0 => by
    rw [Lib.decDigits, natS_pos h0]
    by_cases h1 : u < 10
    · rw [dif_pos h1, show u / 10 = 0 by omega, natS_zero, show u % 10 = u by omega]
      rfl
    · rw [dif_neg h1, dec_nat m (u / 10) (by omega) (by omega)]
      rfl
theorem itoa_intS (n : Int) : Lib.itoa n = intS n := by
  unfold Lib.itoa intS
  by_cases h0 : n = 0
  · subst h0
    rw [if_neg (by decide), if_pos rfl]
    rw [Lib.decDigits]
    rfl
  · rw [if_neg h0]
    by_cases h1 : n < 0
    · rw [if_pos h1, decide_eq_true h1, dec_nat n.natAbs n.natAbs (Nat.le_refl _) (by omega)]
      rfl
    · rw [if_neg h1, decide_eq_false h1, show n.toNat = n.natAbs by omega, dec_nat n.natAbs n.natAbs (Nat.le_refl _) (by omega)]
      rfl
theorem small_of {n : Int} (h : -9223372036854775808 ≤ n ∧ n ≤ 9223372036854775807) : Small n := by
  refine ⟨h, ?_⟩
  rw [itoa_intS]
  unfold intS
  by_cases h0 : n = 0
  · rw [if_pos h0]; decide
  · rw [if_neg h0, List.length_append]
    have h1 := natS_len 19 n.natAbs (by omega)
    have h2 : (sgn (decide (n < 0))).length ≤ 1 := by
      cases decide (n < 0) <;> decide
    omega
end Go.Proofs.YthgblljokonejaaGreatDoor

/- What is read of tokens whose numbers fit has numbers that fit. -/
namespace Go.Proofs.YthgblljokonejaaGreatDoor
open Go.ChangeShapes Go.WideShapes Go.ChangeAt Go.RowKit

def In64 (n : Int) : Prop := -9223372036854775808 ≤ n ∧ n ≤ 9223372036854775807
theorem numsL_mem : ∀ (l : List Tok) (x : Int), x ∈ numsL l → ∃ t ∈ l, x = t.num
  | [], x, h => by cases h
  | t :: r, x, h => by
    unfold numsL at h
    split at h
    · rcases List.mem_cons.1 h with rfl | h
      · exact ⟨t, by simp, rfl⟩
      · obtain ⟨u, hu, e⟩ := numsL_mem r x h
        exact ⟨u, by simp [hu], e⟩
    · cases h
theorem numsL_len : ∀ (l : List Tok), (numsL l).length ≤ l.length
  | [] => Nat.le_refl _
  | t :: r => by
    unfold numsL
    have := numsL_len r
    split
    · simp; omega
    · simp
theorem numsR_in5 {ts : List Tok} (hT : ∀ t ∈ ts, In64 t.num) (i : Nat) : ∀ x ∈ numsR ts i, Small x := fun x hx => by
  obtain ⟨t, ht, rfl⟩ := numsL_mem _ x hx
  exact small_of (hT t (List.mem_of_mem_drop ht))
theorem numsR_len5 {ts : List Tok} (hl : ts.length ≤ 2000000) (i : Nat) : (numsR ts i).length ≤ 2000000 := by
  have := numsL_len (ts.drop i)
  rw [List.length_drop] at this
  unfold numsR
  omega
theorem nth_in5 {ts : List Tok} (hT : ∀ t ∈ ts, In64 t.num) (k : Nat) : In64 (nthT ts k).num := by
  unfold nthT
  rw [List.getD_eq_getElem?_getD]
  rcases Nat.lt_or_ge k ts.length with h | h
  · rw [List.getElem?_eq_getElem h]
    exact hT _ (List.getElem_mem h)
  · rw [List.getElem?_eq_none h]
    exact ⟨by decide, by decide⟩
theorem numR_in5 {ts : List Tok} (hT : ∀ t ∈ ts, In64 t.num) {i j : Nat} {n : Int} (h : numR ts i = (some n, j)) : Small n := by
  unfold numR at h
  split at h
  · cases h
    exact small_of (nth_in5 hT i)
  · cases h
theorem placeR_in5 {ts : List Tok} (hT : ∀ t ∈ ts, In64 t.num) {i j : Nat} {p : Plc} (h : placeR ts i = (some p, j)) : Small p.port := by
  unfold placeR at h
  obtain ⟨a1, j1, h1, h⟩ := then_eq h
  obtain ⟨a2, j2, h2, h⟩ := then_eq h
  obtain ⟨a3, j3, h3, h⟩ := then_eq h
  cases h
  exact numR_in5 hT h3
theorem noPlc_small : Small noPlc.port := small_of ⟨by decide, by decide⟩
theorem nil_small : ∀ n ∈ ([] : List Int), Small n := fun _ h => by cases h
theorem withR_in5 {ts : List Tok} (hT : ∀ t ∈ ts, In64 t.num) (hl : ts.length ≤ 2000000) {i j : Nat} {ns : List Int} (h : withR ts i = (some ns, j)) : (∀ n ∈ ns, Small n) ∧ ns.length ≤ 2000001 := by
  unfold withR at h
  split at h
  · obtain ⟨a1, j1, h1, h⟩ := then_eq h
    cases h
    refine ⟨fun n hn => ?_, ?_⟩
    · rcases List.mem_cons.1 hn with rfl | hn
      · exact numR_in5 hT h1
      · exact numsR_in5 hT j1 n hn
    · have := numsR_len5 hl j1
      simp; omega
  · cases h
    exact ⟨nil_small, by simp⟩
theorem bodyR_fits {ts : List Tok} (hT : ∀ t ∈ ts, In64 t.num) (hl : ts.length ≤ 2000000) {i j : Nat} {x : Itm} (h : bodyR ts i = (some x, j)) : Fits x := by
  unfold bodyR at h
  split at h
  · unfold actorR at h
    obtain ⟨a1, j1, h1, h⟩ := then_eq h
    obtain ⟨a2, j2, h2, h⟩ := then_eq h
    obtain ⟨a3, j3, h3, h⟩ := then_eq h
    obtain ⟨a4, j4, h4, h⟩ := then_eq h
    cases h
    have := numsR_len5 hl j4
    exact ⟨noPlc_small, noPlc_small, numsR_in5 hT j4, by show (numsR ts j4).length ≤ _; omega⟩
  split at h
  · unfold edgeR at h
    obtain ⟨a1, j1, h1, h⟩ := then_eq h
    obtain ⟨a2, j2, h2, h⟩ := then_eq h
    obtain ⟨a3, j3, h3, h⟩ := then_eq h
    obtain ⟨a4, j4, h4, h⟩ := then_eq h
    obtain ⟨a5, j5, h5, h⟩ := then_eq h
    cases h
    obtain ⟨w1, w2⟩ := withR_in5 hT hl h5
    exact ⟨placeR_in5 hT h2, placeR_in5 hT h4, w1, by show a5.length ≤ _; omega⟩
  split at h
  · unfold inR at h
    obtain ⟨a1, j1, h1, h⟩ := then_eq h
    obtain ⟨a2, j2, h2, h⟩ := then_eq h
    obtain ⟨a3, j3, h3, h⟩ := then_eq h
    obtain ⟨a4, j4, h4, h⟩ := then_eq h
    cases h
    exact ⟨noPlc_small, placeR_in5 hT h4, nil_small, by simp⟩
  · unfold outR at h
    obtain ⟨a1, j1, h1, h⟩ := then_eq h
    obtain ⟨a2, j2, h2, h⟩ := then_eq h
    obtain ⟨a3, j3, h3, h⟩ := then_eq h
    obtain ⟨a4, j4, h4, h⟩ := then_eq h
    cases h
    exact ⟨placeR_in5 hT h2, noPlc_small, nil_small, by simp⟩
theorem itemsF_fits {ts : List Tok} (hT : ∀ t ∈ ts, In64 t.num) (hl : ts.length ≤ 2000000) : ∀ (n i j : Nat) (xs : List Itm), itemsF n ts i = (some xs, j) → ∀ x ∈ xs, Fits x
  | 0, i, j, xs, h => by cases h
  | n + 1, i, j, xs, h => by
    by_cases he : (nthT ts i).text = [125]
    · have e : itemsF (n + 1) ts i = (some [], i) := by
        show (if _ then _ else _) = _
        rw [if_pos he]
      rw [e] at h
      cases h
      intro x hx; cases hx
    · rw [itemsF_step he] at h
      obtain ⟨a1, j1, h1, h⟩ := then_eq h
      obtain ⟨a2, j2, h2, h⟩ := then_eq h
      cases h
      unfold itemR at h1
      obtain ⟨b1, k1, g1, h1⟩ := then_eq h1
      obtain ⟨b2, k2, g2, h1⟩ := then_eq h1
      cases h1
      intro x hx
      rcases List.mem_cons.1 hx with rfl | hx
      · exact bodyR_fits hT hl g1
      · exact itemsF_fits hT hl n _ _ _ h2 x hx
theorem sketchR_fits {ts : List Tok} (hT : ∀ t ∈ ts, In64 t.num) (hl : ts.length ≤ 2000000) {s : Skt} {j : Nat} (h : sketchR ts = (some s, j)) : ∀ x ∈ s.items, Fits x := by
  unfold sketchR at h
  obtain ⟨a1, j1, h1, h⟩ := then_eq h
  obtain ⟨a2, j2, h2, h⟩ := then_eq h
  obtain ⟨a3, j3, h3, h⟩ := then_eq h
  obtain ⟨a4, j4, h4, h⟩ := then_eq h
  obtain ⟨a5, j5, h5, h⟩ := then_eq h
  split at h
  · cases h
    exact itemsF_fits hT hl _ _ _ _ h4
  · cases h
end Go.Proofs.YthgblljokonejaaGreatDoor

/- A text's numbers fit. -/
namespace Go.Proofs.YthgblljokonejaaGreatDoor
open Go.ChangeShapes Go.WideShapes Go.ChangeAt Go.RowKit

theorem fits_in64 {v : Int} (h : fits8 v = true) : In64 v := by
  unfold fits8 at h
  rw [Bool.and_eq_true, decide_eq_true_iff, decide_eq_true_iff] at h
  exact h
theorem zero_in64 : In64 0 := ⟨by decide, by decide⟩
theorem numO_in64 {neg : Bool} {ds : List UInt8} {v : Int} (h : numO neg ds = some v) : In64 v := by
  unfold numO at h
  split at h
  · rename_i hc
    cases h
    rw [Bool.and_eq_true] at hc
    exact fits_in64 hc.2
  · cases h
theorem tok_in64 (l : List UInt8) : In64 (tokO l).tok.num := by
  unfold tokO
  split
  · unfold wordO
    split
    · exact zero_in64
    · exact zero_in64
  split
  · unfold numberO
    simp only
    cases h : numO (decide (by8 l 0 = 45)) _ with
    | none => exact zero_in64
    | some v => exact numO_in64 h
  split
  · exact zero_in64
  split
  · exact zero_in64
  · exact zero_in64
theorem all_in64 : ∀ (n p : Nat) (x : List UInt8), x.length ≤ n → ∀ t ∈ (allL p x).toks, In64 t.num
  | n, p, x, hn => by
    by_cases h1 : x.drop (skipN false x) = []
    · rw [allL_end h1]
      intro t ht
      have e : t = ⟨0, [], 0, ((p + skipN false x : Nat) : Int)⟩ := by simpa using ht
      rw [e]
      exact zero_in64
    · by_cases h2 : (tokO (x.drop (skipN false x))).err = 0
      · obtain ⟨h3, h4, -⟩ := tok_some h2
        rw [List.length_drop] at h4
        rw [allL_tok h1 h2]
        unfold Got.cons
        match n, hn with
        | 0, hn => omega
        | n + 1, hn =>
          have ih := all_in64 n (p + skipN false x + (tokO (x.drop (skipN false x))).n) (x.drop (skipN false x + (tokO (x.drop (skipN false x))).n)) (by rw [List.length_drop]; omega)
          split
          · intro t ht
            rcases List.mem_cons.1 ht with rfl | ht
            · exact tok_in64 _
            · exact ih t ht
          · exact ih
      · rw [allL_err h1 h2]
        intro t ht
        cases ht
theorem text_in64 (l : List UInt8) : ∀ t ∈ (textG l).toks, In64 t.num := by
  unfold textG
  split
  · intro t ht; cases ht
  · exact all_in64 l.length 0 l (Nat.le_refl _)
/-- What is read of a text is printed by print_any's leave. -/
theorem text_fits {l : List UInt8} {s : Skt} {j : Nat} (h : sketchR (textG l).toks = (some s, j)) : ∀ x ∈ s.items, Fits x := sketchR_fits (text_in64 l) (text_len5 l) h
end Go.Proofs.YthgblljokonejaaGreatDoor

/- The examples of pianolalaw05.awake, plain. -/
namespace Go.Proofs.YthgblljokonejaaGreatDoor

theorem wake1 : (textG [103, 114, 97, 112, 104, 32, 103, 32, 123, 10, 32, 32, 101, 100, 103, 101, 32, 97, 46, 48, 32, 45, 62, 32, 98, 46, 49, 32, 119, 105, 116, 104, 32, 49, 32, 45, 50, 59, 10, 125, 10]).err = 0 ∧ sketchR (textG [103, 114, 97, 112, 104, 32, 103, 32, 123, 10, 32, 32, 101, 100, 103, 101, 32, 97, 46, 48, 32, 45, 62, 32, 98, 46, 49, 32, 119, 105, 116, 104, 32, 49, 32, 45, 50, 59, 10, 125, 10]).toks = (some ⟨[103], [⟨2, [], [], [1, -2], ⟨[97], 0, 17⟩, ⟨[98], 1, 24⟩, 12⟩]⟩, 17) := by refine ⟨?_, ?_⟩ <;> kernel_rfl
theorem wake2 : (textG [103, 114, 97, 112, 104, 32, 103, 32, 123, 32, 110, 111, 100, 101, 32, 97, 59, 32, 125]).err = 0 ∧ (sketchR (textG [103, 114, 97, 112, 104, 32, 103, 32, 123, 32, 110, 111, 100, 101, 32, 97, 59, 32, 125]).toks).1.isNone = true ∧ (nthT (textG [103, 114, 97, 112, 104, 32, 103, 32, 123, 32, 110, 111, 100, 101, 32, 97, 59, 32, 125]).toks (sketchR (textG [103, 114, 97, 112, 104, 32, 103, 32, 123, 32, 110, 111, 100, 101, 32, 97, 59, 32, 125]).toks).2).place = 10 := by refine ⟨?_, ?_, ?_⟩ <;> kernel_rfl
end Go.Proofs.YthgblljokonejaaGreatDoor

/- What is printed hangs on the items alone; the statements' own examples (pianolalaw05.awake). -/
namespace Go.Proofs.YthgblljokonejaaGreatDoor
open Go.ChangeShapes Go.WideShapes Go.ChangeAt Go.RowKit

def formX (nm : List UInt8) (xs : List Itm) : List UInt8 := headS nm ++ xs.flatMap itemT ++ [125, 10]
def printX (nm : List UInt8) (xs : List Itm) : List UInt8 × Int :=
  if (xs.all rightX && nameB nm) = true then (if 1048576 < (formX nm xs).length then ([], 2) else (formX nm xs, 0)) else ([], 1)
theorem form_items (nm : List UInt8) (L : List (Itm × Value)) : formT nm L = formX nm (L.map Prod.fst) := by
  unfold formT formX itemsT
  rw [List.flatMap_map]
theorem print_items (nm : List UInt8) (L : List (Itm × Value)) : printO nm L = printX nm (L.map Prod.fst) := by
  unfold printO printX
  rw [form_items]
  have : rightL L = (L.map Prod.fst).all rightX := by
    unfold rightL
    rw [List.all_map]; rfl
  rw [this]
def wakeI : Itm := ⟨2, [], [], [1, -2], ⟨[97], 0, 17⟩, ⟨[98], 1, 24⟩, 12⟩
def wakeT : List UInt8 := [103, 114, 97, 112, 104, 32, 103, 32, 123, 10, 32, 32, 101, 100, 103, 101, 32, 97, 46, 48, 32, 45, 62, 32, 98, 46, 49, 32, 119, 105, 116, 104, 32, 49, 32, 45, 50, 59, 10, 125, 10]
theorem wake3 : printX [103] [wakeI] = (wakeT, 0) := by kernel_rfl
theorem later2 {W w' : World} (hb : Below W.heap.size W w') {p : Addr} {x : Value} (h : W.cell? p = some x) : ∀ o1 o2, ((w'.alloc o1).alloc o2).cell? p = some x := fun o1 o2 =>
  cell_keep (((Below.refl _ _).alloc (Nat.le_refl _) o1).alloc (by simp) o2) (cell_keep hb h)
/-- How the reading of the first example ends. -/
theorem parse_wake (W : World) (hE : Env W) : Calls Tryz.prog 5 #[.string ⟨#[103, 114, 97, 112, 104, 32, 103, 32, 123, 10, 32, 32, 101, 100, 103, 101, 32, 97, 46, 48, 32, 45, 62, 32, 98, 46, 49, 32, 119, 105, 116, 104, 32, 49, 32, 45, 50, 59, 10, 125, 10]⟩] W fun e w' => ∃ g c v a n, e = .returned (.tuple #[.agg #[.string ⟨#[103]⟩, .slice (some ⟨g, 0, none⟩) 1 c], .agg #[.int .i64 0, .int .i64 0]]) ∧ v = .slice a 2 n ∧ ItR w' (some ⟨g, 0, none⟩) [(wakeI, v)] ∧ Cell11 w' g 0 (wakeI, v) ∧ Below W.heap.size W w' := by
  refine (parse_any wakeT W hE).mono ?_
  rintro e w' ⟨h, hb⟩
  obtain ⟨k1, k2⟩ := wake1
  rcases h with ⟨h1, -⟩ | ⟨-, j, h1, -⟩ | ⟨-, s, j, a, c, L, h1, rfl, h3, h4⟩
  · exact absurd k1 h1
  · rw [show (textG wakeT).toks = (textG [103, 114, 97, 112, 104, 32, 103, 32, 123, 10, 32, 32, 101, 100, 103, 101, 32, 97, 46, 48, 32, 45, 62, 32, 98, 46, 49, 32, 119, 105, 116, 104, 32, 49, 32, 45, 50, 59, 10, 125, 10]).toks from rfl, k2] at h1
    cases h1
  · rw [show (textG wakeT).toks = (textG [103, 114, 97, 112, 104, 32, 103, 32, 123, 10, 32, 32, 101, 100, 103, 101, 32, 97, 46, 48, 32, 45, 62, 32, 98, 46, 49, 32, 119, 105, 116, 104, 32, 49, 32, 45, 50, 59, 10, 125, 10]).toks from rfl, k2] at h1
    injection h1 with h5 h6
    injection h5 with h5
    subst h5
    simp only at h3 h4 ⊢
    match L, h3, h4 with
    | [], h3, _ => cases h3
    | [(x, v)], h3, h4 =>
      have ex : wakeI = x := by injection h3
      subst ex
      have hi : ItR w' a [(wakeI, v)] := Its.at5 (c := c) (L := [(wakeI, v)]) h4
      rcases hi.lie with h0 | ⟨g, off, rfl, hc⟩
      · cases h0
      have hr := h4.row.2
      rcases hr with ⟨hv, -⟩ | ⟨g', cap, cur, hv, -⟩
      · cases hv
      · cases hv
        obtain ⟨a2, n2, hv2, -⟩ := hi.nums (wakeI, v) (by simp)
        have c0 := hc 0 (by simp)
        rw [Nat.zero_mul, Nat.zero_add] at c0
        exact ⟨g, _, v, a2, n2, rfl, hv2, hi, c0, hb⟩
    | _ :: _ :: _, h3, _ => simp at h3
theorem parse_wake2 (W : World) (hE : Env W) : Calls Tryz.prog 5 #[.string ⟨#[103, 114, 97, 112, 104, 32, 103, 32, 123, 32, 110, 111, 100, 101, 32, 97, 59, 32, 125]⟩] W fun e w' => e = .returned (.tuple #[.agg #[.string ⟨#[]⟩, .slice none 0 0], .agg #[.int .i64 50, .int .i64 10]]) ∧ Below W.heap.size W w' := by
  refine (parse_any [103, 114, 97, 112, 104, 32, 103, 32, 123, 32, 110, 111, 100, 101, 32, 97, 59, 32, 125] W hE).mono ?_
  rintro e w' ⟨h, hb⟩
  obtain ⟨k1, k2, k3⟩ := wake2
  rcases h with ⟨h1, -⟩ | ⟨-, j, h1, rfl⟩ | ⟨-, s, j, a, c, L, h1, -, -, -⟩
  · exact absurd k1 h1
  · rw [h1] at k3
    rw [k3]
    exact ⟨rfl, hb⟩
  · rw [h1] at k2
    cases k2
theorem wake_fits (v : Value) : ∀ p ∈ [(wakeI, v)], Fits p.1 := by
  intro p hp
  have e : p = (wakeI, v) := by simpa using hp
  subst e
  show Fits wakeI
  exact ⟨small_of ⟨by decide, by decide⟩, small_of ⟨by decide, by decide⟩, fun n hn => small_of (by
    have : n = 1 ∨ n = -2 := by simpa [wakeI] using hn
    omega), by decide⟩
set_option maxRecDepth 100000 in
set_option maxHeartbeats 4000000 in
theorem awake5 (w : World) (hE : Env w) (hT : Tab w.heap.size w) : Calls Tryz.prog 8 #[] w fun e w' => e = .returned (.bool true) ∧ Below w.heap.size w w' := by
  have A1 := hidden (parse_wake w hE)
  have A3 : Hid (∀ V, Env V → Calls Tryz.prog 5 #[.string ⟨#[103, 114, 97, 112, 104, 32, 103, 32, 123, 32, 110, 111, 100, 101, 32, 97, 59, 32, 125]⟩] V fun e w' => e = .returned (.tuple #[.agg #[.string ⟨#[]⟩, .slice none 0 0], .agg #[.int .i64 50, .int .i64 10]]) ∧ Below V.heap.size V w') := fun V h => parse_wake2 V h
  have A2 : Hid (∀ V g c v, Below w.heap.size w V → ItR V (some ⟨g, 0, none⟩) [(wakeI, v)] → Calls Tryz.prog 12 #[.agg #[.string ⟨#[103]⟩, .slice (some ⟨g, 0, none⟩) 1 c]] V fun e w' => e = .returned (.tuple #[.string ⟨#[103, 114, 97, 112, 104, 32, 103, 32, 123, 10, 32, 32, 101, 100, 103, 101, 32, 97, 46, 48, 32, 45, 62, 32, 98, 46, 49, 32, 119, 105, 116, 104, 32, 49, 32, 45, 50, 59, 10, 125, 10]⟩, .int .i64 0]) ∧ Below V.heap.size V w') := fun V g c v hb hi => by
    have := print_any [103] (some ⟨g, 0, none⟩) 1 c [(wakeI, v)] V rfl hi (by decide) (wake_fits v) (fun w' h' => hT w' (hb.trans (h'.mono hb.size)))
    rw [print_items, show [(wakeI, v)].map Prod.fst = [wakeI] from rfl, wake3] at this
    exact this
  have HE := hidden hE
  have e1 : (ByteArray.mk #[103, 114, 97, 112, 104, 32, 103, 32, 123, 10, 32, 32, 101, 100, 103, 101, 32, 97, 46, 48, 32, 45, 62, 32, 98, 46, 49, 32, 119, 105, 116, 104, 32, 49, 32, 45, 50, 59, 10, 125, 10]).toList = wakeT := str_list wakeT
  have e2 : (wakeT == wakeT) = true := by simp
  clear hE hT
  go_enter Tryz.func8, Tryz.ntmps8
  go_wp2_with (first
    | (go_at_call 12; (with_reducible refine (A2.out _ g c _ (B2.out _ _) (I2.out _ _)).mono ?_); rintro e w3 ⟨rfl, b3⟩; have B3 := hidden ((B2.out _ _).trans (b3.mono (B2.out _ _).size)); have D3 := hidden ((N2.out _ _).trans (b3.mono (N2.out _ _).size)); have z0 : w3.cell? ⟨w1.heap.size, 0, none⟩ = some (.string ⟨#[103]⟩) := cell_keep b3 (by simp); have z1 : w3.cell? ⟨w1.heap.size, 1, none⟩ = some (.slice (some ⟨g, 0, none⟩) 1 c) := cell_keep b3 (by simp); have z2 : w3.cell? ⟨w1.heap.size + 1, 0, none⟩ = some (.int .i64 0) := cell_keep b3 (by simp); have z3 : w3.cell? ⟨w1.heap.size + 1, 1, none⟩ = some (.int .i64 0) := cell_keep b3 (by simp); clear b3)
    | (go_at_call 5; (with_reducible refine (A3.out w3 (HE.out.below B3.out)).mono ?_); rintro e w4 ⟨rfl, b4⟩; have y0 := later2 b4 z0; have y1 := later2 b4 z1; have y2 := later2 b4 z2; have y3 := later2 b4 z3; have x3 : ∀ o1 o2, ((w4.alloc o1).alloc o2).cell? ⟨g, 3, none⟩ = some (.slice a 2 n) := later2 b4 (cell_keep D3.out hc.c3); have x7 : ∀ o1 o2, ((w4.alloc o1).alloc o2).cell? ⟨g, 7, none⟩ = some (.string ⟨#[98]⟩) := later2 b4 (cell_keep D3.out hc.c7); have x8 : ∀ o1 o2, ((w4.alloc o1).alloc o2).cell? ⟨g, 8, none⟩ = some (.int .i64 1) := later2 b4 (cell_keep D3.out hc.c8); have x9 : ∀ o1 o2, ((w4.alloc o1).alloc o2).cell? ⟨g, 9, none⟩ = some (.int .i64 24) := later2 b4 (cell_keep D3.out hc.c9); have B4 := hidden (B3.out.trans (b4.mono B3.out.size)); clear b4 z0 z1 z2 z3 hc)
    | (go_at_call 5; (with_reducible refine A1.out.mono ?_); rintro e w1 ⟨g, c, v, a, n, rfl, rfl, hi, hc, b1⟩; have N2 : Hid (∀ o1 o2, Below w1.heap.size w1 ((w1.alloc o1).alloc o2)) := fun o1 o2 => ((Below.refl _ _).alloc (Nat.le_refl _) o1).alloc (by simp) o2; have B2 : Hid (∀ o1 o2, Below w.heap.size w ((w1.alloc o1).alloc o2)) := fun o1 o2 => b1.trans ((N2.out o1 o2).mono b1.size); have I2 : Hid (∀ o1 o2, ItR ((w1.alloc o1).alloc o2) (some ⟨g, 0, none⟩) [(wakeI, .slice a 2 n)]) := fun o1 o2 => hi.below (N2.out o1 o2); clear hi b1))
  go_ret
  exact ⟨rfl, (B4.out.alloc B4.out.size _).alloc (by have := B4.out.size; simp; omega) _⟩
end Go.Proofs.YthgblljokonejaaGreatDoor
