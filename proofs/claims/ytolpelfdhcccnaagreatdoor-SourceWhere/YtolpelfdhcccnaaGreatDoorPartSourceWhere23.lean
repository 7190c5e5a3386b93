/- Texts of one chain, laid one behind the other. -/
import Derived.Test.YtolpelfdhcccnaaGreatDoorPartSourceWhere21
import Derived.Test.YtolpelfdhcccnaaGreatDoorPartSourceWhere22
namespace Go.Proofs.YtolpelfdhcccnaaGreatDoor
open Go.ChangeShapes Go.WideShapes Go.ChangeAt Go.RowKit
theorem dec_nat : ∀ (m u : Nat), u ≤ m → u ≠ 0 → Lib.decDigits u = natS u
  | 0, u, h, h0 => by omega
  | m + 1, u, h, h0 => by
    rw [Lib.decDigits, natS_pos h0]
    by_cases h1 : u < 10
    · rw [dif_pos h1, show u / 10 = 0 by omega, natS_zero, show u % 10 = u by omega]
      rfl
    · rw [dif_neg h1, dec_nat m (u / 10) (by omega) (by omega)]
      rfl
theorem itoa_intS (n : Int) : Lib.itoa n = intS n := by
  unfold Lib.itoa intS
  by_cases h0 : n = 0
  · subst h0
    rw [if_neg (by decide), if_pos rfl]
    rw [Lib.decDigits]
    rfl
  · rw [if_neg h0]
    by_cases h1 : n < 0
    · rw [if_pos h1, decide_eq_true h1, dec_nat n.natAbs n.natAbs (Nat.le_refl _) (by omega)]
      rfl
    · rw [if_neg h1, decide_eq_false h1, show n.toNat = n.natAbs by omega, dec_nat n.natAbs n.natAbs (Nat.le_refl _) (by omega)]
      rfl
theorem small_of {n : Int} (h : -9223372036854775808 ≤ n ∧ n ≤ 9223372036854775807) : Small n := by
  refine ⟨h, ?_⟩
  rw [itoa_intS]
  unfold intS
  by_cases h0 : n = 0
  · rw [if_pos h0]; decide
  · rw [if_neg h0, List.length_append]
    have h1 := natS_len 19 n.natAbs (by omega)
    have h2 : (sgn (decide (n < 0))).length ≤ 1 := by
      cases decide (n < 0) <;> decide
    omega
def In64 (n : Int) : Prop := -9223372036854775808 ≤ n ∧ n ≤ 9223372036854775807
theorem numsL_mem : ∀ (l : List Tok) (x : Int), x ∈ numsL l → ∃ t ∈ l, x = t.num
  | [], x, h => by cases h
  | t :: r, x, h => by
    unfold numsL at h
    split at h
    · rcases List.mem_cons.1 h with rfl | h
      · exact ⟨t, by simp, rfl⟩
      · obtain ⟨u, hu, e⟩ := numsL_mem r x h
        exact ⟨u, by simp [hu], e⟩
    · cases h
theorem numsL_len : ∀ (l : List Tok), (numsL l).length ≤ l.length
  | [] => Nat.le_refl _
  | t :: r => by
    unfold numsL
    have := numsL_len r
    split
    · simp; omega
    · simp
theorem numsR_in5 {ts : List Tok} (hT : ∀ t ∈ ts, In64 t.num) (i : Nat) : ∀ x ∈ numsR ts i, Small x := fun x hx => by
  obtain ⟨t, ht, rfl⟩ := numsL_mem _ x hx
  exact small_of (hT t (List.mem_of_mem_drop ht))
theorem numsR_len5 {ts : List Tok} (hl : ts.length ≤ 2000000) (i : Nat) : (numsR ts i).length ≤ 2000000 := by
  have := numsL_len (ts.drop i)
  rw [List.length_drop] at this
  unfold numsR
  omega
theorem nth_in5 {ts : List Tok} (hT : ∀ t ∈ ts, In64 t.num) (k : Nat) : In64 (nthT ts k).num := by
  unfold nthT
  rw [List.getD_eq_getElem?_getD]
  rcases Nat.lt_or_ge k ts.length with h | h
  · rw [List.getElem?_eq_getElem h]
    exact hT _ (List.getElem_mem h)
  · rw [List.getElem?_eq_none h]
    exact ⟨by decide, by decide⟩
theorem numR_in5 {ts : List Tok} (hT : ∀ t ∈ ts, In64 t.num) {i j : Nat} {n : Int} (h : numR ts i = (some n, j)) : Small n := by
  unfold numR at h
  split at h
  · cases h
    exact small_of (nth_in5 hT i)
  · cases h
theorem placeR_in5 {ts : List Tok} (hT : ∀ t ∈ ts, In64 t.num) {i j : Nat} {p : Plc_k} (h : placeR ts i = (some p, j)) : Small p.port := by
  unfold placeR at h
  obtain ⟨a1, j1, h1, h⟩ := then_eq h
  obtain ⟨a2, j2, h2, h⟩ := then_eq h
  obtain ⟨a3, j3, h3, h⟩ := then_eq h
  cases h
  exact numR_in5 hT h3
theorem noPlc_small : Small noPlc_k.port := small_of ⟨by decide, by decide⟩
theorem nil_small : ∀ n ∈ ([] : List Int), Small n := fun _ h => by cases h
theorem withR_in5 {ts : List Tok} (hT : ∀ t ∈ ts, In64 t.num) (hl : ts.length ≤ 2000000) {i j : Nat} {ns : List Int} (h : withR ts i = (some ns, j)) : (∀ n ∈ ns, Small n) ∧ ns.length ≤ 2000001 := by
  unfold withR at h
  split at h
  · obtain ⟨a1, j1, h1, h⟩ := then_eq h
    cases h
    refine ⟨fun n hn => ?_, ?_⟩
    · rcases List.mem_cons.1 hn with rfl | hn
      · exact numR_in5 hT h1
      · exact numsR_in5 hT j1 n hn
    · have := numsR_len5 hl j1
      simp; omega
  · cases h
    exact ⟨nil_small, by simp⟩
theorem bodyR_fits {ts : List Tok} (hT : ∀ t ∈ ts, In64 t.num) (hl : ts.length ≤ 2000000) {i j : Nat} {x : Itm_k} (h : bodyR ts i = (some x, j)) : Fits x := by
  unfold bodyR at h
  split at h
  · unfold actorR at h
    obtain ⟨a1, j1, h1, h⟩ := then_eq h
    obtain ⟨a2, j2, h2, h⟩ := then_eq h
    obtain ⟨a3, j3, h3, h⟩ := then_eq h
    obtain ⟨a4, j4, h4, h⟩ := then_eq h
    cases h
    have := numsR_len5 hl j4
    exact ⟨noPlc_small, noPlc_small, numsR_in5 hT j4, by show (numsR ts j4).length ≤ _; omega⟩
  split at h
  · unfold edgeR at h
    obtain ⟨a1, j1, h1, h⟩ := then_eq h
    obtain ⟨a2, j2, h2, h⟩ := then_eq h
    obtain ⟨a3, j3, h3, h⟩ := then_eq h
    obtain ⟨a4, j4, h4, h⟩ := then_eq h
    obtain ⟨a5, j5, h5, h⟩ := then_eq h
    cases h
    obtain ⟨w1, w2⟩ := withR_in5 hT hl h5
    exact ⟨placeR_in5 hT h2, placeR_in5 hT h4, w1, by show a5.length ≤ _; omega⟩
  split at h
  · unfold inR at h
    obtain ⟨a1, j1, h1, h⟩ := then_eq h
    obtain ⟨a2, j2, h2, h⟩ := then_eq h
    obtain ⟨a3, j3, h3, h⟩ := then_eq h
    obtain ⟨a4, j4, h4, h⟩ := then_eq h
    cases h
    exact ⟨noPlc_small, placeR_in5 hT h4, nil_small, by simp⟩
  · unfold outR at h
    obtain ⟨a1, j1, h1, h⟩ := then_eq h
    obtain ⟨a2, j2, h2, h⟩ := then_eq h
    obtain ⟨a3, j3, h3, h⟩ := then_eq h
    obtain ⟨a4, j4, h4, h⟩ := then_eq h
    cases h
    exact ⟨placeR_in5 hT h2, noPlc_small, nil_small, by simp⟩
theorem itemsF_fits {ts : List Tok} (hT : ∀ t ∈ ts, In64 t.num) (hl : ts.length ≤ 2000000) : ∀ (n i j : Nat) (xs : List Itm_k), itemsF n ts i = (some xs, j) → ∀ x ∈ xs, Fits x
  | 0, i, j, xs, h => by cases h
  | n + 1, i, j, xs, h => by
    by_cases he : (nthT ts i).text = [125]
    · have e : itemsF (n + 1) ts i = (some [], i) := by
        show (if _ then _ else _) = _
        rw [if_pos he]
      rw [e] at h
      cases h
      intro x hx; cases hx
    · rw [itemsF_step he] at h
      obtain ⟨a1, j1, h1, h⟩ := then_eq h
      obtain ⟨a2, j2, h2, h⟩ := then_eq h
      cases h
      unfold itemR at h1
      obtain ⟨b1, k1, g1, h1⟩ := then_eq h1
      obtain ⟨b2, k2, g2, h1⟩ := then_eq h1
      cases h1
      intro x hx
      rcases List.mem_cons.1 hx with rfl | hx
      · exact bodyR_fits hT hl g1
      · exact itemsF_fits hT hl n _ _ _ h2 x hx
theorem sketchR_fits {ts : List Tok} (hT : ∀ t ∈ ts, In64 t.num) (hl : ts.length ≤ 2000000) {s : Skt_k} {j : Nat} (h : sketchR ts = (some s, j)) : ∀ x ∈ s.items, Fits x := by
  unfold sketchR at h
  obtain ⟨a1, j1, h1, h⟩ := then_eq h
  obtain ⟨a2, j2, h2, h⟩ := then_eq h
  obtain ⟨a3, j3, h3, h⟩ := then_eq h
  obtain ⟨a4, j4, h4, h⟩ := then_eq h
  obtain ⟨a5, j5, h5, h⟩ := then_eq h
  split at h
  · cases h
    exact itemsF_fits hT hl _ _ _ _ h4
  · cases h
theorem fits_in64 {v : Int} (h : fits8 v = true) : In64 v := by
  unfold fits8 at h
  rw [Bool.and_eq_true, decide_eq_true_iff, decide_eq_true_iff] at h
  exact h
theorem zero_in64 : In64 0 := ⟨by decide, by decide⟩
theorem numO_in64 {neg : Bool} {ds : List UInt8} {v : Int} (h : numO neg ds = some v) : In64 v := by
  unfold numO at h
  split at h
  · rename_i hc
    cases h
    rw [Bool.and_eq_true] at hc
    exact fits_in64 hc.2
  · cases h
theorem tok_in64 (l : List UInt8) : In64 (tokO l).tok.num := by
  unfold tokO
  split
  · unfold wordO
    split
    · exact zero_in64
    · exact zero_in64
  split
  · unfold numberO
    simp only
    cases h : numO (decide (by8 l 0 = 45)) _ with
    | none => exact zero_in64
    | some v => exact numO_in64 h
  split
  · exact zero_in64
  split
  · exact zero_in64
  · exact zero_in64
theorem all_in64 : ∀ (n p : Nat) (x : List UInt8), x.length ≤ n → ∀ t ∈ (allL p x).toks, In64 t.num
  | n, p, x, hn => by
    by_cases h1 : x.drop (skipN false x) = []
    · rw [allL_end h1]
      intro t ht
      have e : t = ⟨0, [], 0, ((p + skipN false x : Nat) : Int)⟩ := by simpa using ht
      rw [e]
      exact zero_in64
    · by_cases h2 : (tokO (x.drop (skipN false x))).err = 0
      · obtain ⟨h3, h4, -⟩ := tok_some h2
        rw [List.length_drop] at h4
        rw [allL_tok h1 h2]
        unfold Got.cons
        match n, hn with
        | 0, hn => omega
        | n + 1, hn =>
          have ih := all_in64 n (p + skipN false x + (tokO (x.drop (skipN false x))).n) (x.drop (skipN false x + (tokO (x.drop (skipN false x))).n)) (by rw [List.length_drop]; omega)
          split
          · intro t ht
            rcases List.mem_cons.1 ht with rfl | ht
            · exact tok_in64 _
            · exact ih t ht
          · exact ih
      · rw [allL_err h1 h2]
        intro t ht
        cases ht
theorem text_in64 (l : List UInt8) : ∀ t ∈ (textG l).toks, In64 t.num := by
  unfold textG
  split
  · intro t ht; cases ht
  · exact all_in64 l.length 0 l (Nat.le_refl _)
/-- What is read of a text is printed by print_any's leave. -/
theorem text_fits {l : List UInt8} {s : Skt_k} {j : Nat} (h : sketchR (textG l).toks = (some s, j)) : ∀ x ∈ s.items, Fits x := sketchR_fits (text_in64 l) (text_len5 l) h
def formX (nm : List UInt8) (xs : List Itm_k) : List UInt8 := headS nm ++ xs.flatMap itemT ++ [125, 10]
def printX (nm : List UInt8) (xs : List Itm_k) : List UInt8 × Int :=
  if (xs.all rightX && nameB nm) = true then (if 1048576 < (formX nm xs).length then ([], 2) else (formX nm xs, 0)) else ([], 1)
theorem form_items (nm : List UInt8) (L : List (Itm_k × Value)) : formT nm L = formX nm (L.map Prod.fst) := by
  unfold formT formX itemsT
  rw [List.flatMap_map]
theorem print_items (nm : List UInt8) (L : List (Itm_k × Value)) : printO nm L = printX nm (L.map Prod.fst) := by
  unfold printO printX
  rw [form_items]
  have : rightL L = (L.map Prod.fst).all rightX := by
    unfold rightL
    rw [List.all_map]; rfl
  rw [this]
end Go.Proofs.YtolpelfdhcccnaaGreatDoor
namespace Go.Proofs.YtolpelfdhcccnaaGreatDoor
open Go.RowKit
/-! ### A sketch's pieces -/
def wdT (x : List UInt8) : Tok := ⟨1, x, 0, 0⟩
def mrT (x : List UInt8) : Tok := ⟨3, x, 0, 0⟩
def nbT (n : Int) : Tok := ⟨2, [], n, 0⟩
/-! ### The pieces may stand so -/
structure FitsX (x : Itm_k) : Prop where
  frm : fits8 x.frm.port = true
  to : fits8 x.to.port = true
  nums : ∀ n ∈ x.nums, fits8 n = true
/-! ### The pieces' tokens are read as the same -/
def numsU (ns : List Int) : List Tok := ns.map nbT
def placeU (p : Plc_k) : List Tok := [wdT p.name, mrT [46], nbT p.port]
def headU (x : Itm_k) : List Tok :=
  if x.kind = 1 then [wdT [97, 99, 116, 111, 114], wdT x.name, mrT [61], wdT x.tag]
  else if x.kind = 2 then wdT [101, 100, 103, 101] :: (placeU x.frm ++ mrT [45, 62] :: placeU x.to)
  else if x.kind = 3 then wdT [105, 110] :: wdT x.name :: mrT [45, 62] :: placeU x.to
  else wdT [111, 117, 116] :: (placeU x.frm ++ [mrT [45, 62], wdT x.name])
def withU (x : Itm_k) : List Tok := if x.kind = 2 ∧ x.nums ≠ [] then [wdT [119, 105, 116, 104]] else []
def itemU (x : Itm_k) : List Tok := headU x ++ (withU x ++ (numsU x.nums ++ [mrT [59]]))
def formU (nm : List UInt8) (xs : List Itm_k) : List Tok := wdT [103, 114, 97, 112, 104] :: wdT nm :: mrT [123] :: (xs.flatMap itemU ++ [mrT [125]])
theorem itemU_pos (x : Itm_k) : 0 < (itemU x).length := by
  unfold itemU
  simp only [List.length_append, List.length_cons]
  omega
theorem items_len : ∀ xs : List Itm_k, xs.length ≤ (xs.flatMap itemU).length
  | [] => Nat.le_refl _
  | x :: r => by
    rw [List.flatMap_cons, List.length_append, List.length_cons]
    have := items_len r; have := itemU_pos x; omega
/-! ### The tokens that were read are those that are written -/
def Fine (ts : List Tok) : Prop := ∀ k, (rightB (nthT ts k) = true ∧ fits8 (nthT ts k).num = true) ∨ ((nthT ts k).sort = 0 ∧ (nthT ts k).text = [])
def took (ts : List Tok) (i j : Nat) (us : List Tok) : Prop := (ts.drop i).map bareT = us ++ (ts.drop j).map bareT
theorem took.trans {ts : List Tok} {i j k : Nat} {a b : List Tok} (h1 : took ts i j a) (h2 : took ts j k b) : took ts i k (a ++ b) := by
  unfold took at *
  rw [h1, h2, List.append_assoc]
theorem took_nil (ts : List Tok) (i : Nat) : took ts i i [] := rfl
theorem took_one {ts : List Tok} {i : Nat} (h : nthT ts i ≠ noTok) : took ts i (i + 1) [bareT (nthT ts i)] := by
  unfold took
  have hi : i < ts.length := by
    rcases Nat.lt_or_ge i ts.length with h1 | h1
    · exact h1
    · exact absurd (by unfold nthT; rw [List.getD_eq_getElem?_getD, List.getElem?_eq_none h1]; rfl) h
  rw [List.drop_eq_getElem_cons hi]
  have e : nthT ts i = ts[i] := by unfold nthT; rw [List.getD_eq_getElem?_getD, List.getElem?_eq_getElem hi]; rfl
  rw [e]; rfl
theorem right_cases {t : Tok} (h : rightB t = true) : (t.sort = 1 ∧ t.num = 0 ∧ nameB t.text = true) ∨ (t.sort = 2 ∧ t.text = []) ∨ (t.sort = 3 ∧ t.num = 0 ∧ markT t.text = true) := by
  unfold rightB at h
  split at h
  · rename_i h1
    rw [Bool.and_eq_true, decide_eq_true_iff] at h
    exact .inl ⟨h1, h⟩
  split at h
  · rename_i h1
    rw [decide_eq_true_iff] at h
    exact .inr (.inl ⟨h1, h⟩)
  split at h
  · rename_i h1
    rw [Bool.and_eq_true, decide_eq_true_iff] at h
    exact .inr (.inr ⟨h1, h⟩)
  · cases h
theorem took_word {ts : List Tok} (hF : Fine ts) {x : List UInt8} {i j : Nat} {u : Unit} (hx : markT x = false) (hn : x ≠ []) (h : textR ts x i = (some u, j)) : took ts i j [wdT x] ∧ j = i + 1 := by
  have hj := textR_eq h
  have ht : (nthT ts i).text = x := by
    unfold textR at h
    split at h
    · assumption
    · cases h
  subst hj
  refine ⟨?_, rfl⟩
  have h1 := took_one (ts := ts) (i := i) (fun e => hn (by rw [← ht, e]; rfl))
  have h2 : bareT (nthT ts i) = wdT x := by
    rcases hF i with ⟨h3, -⟩ | ⟨-, h3⟩
    · rcases right_cases h3 with ⟨a, b, c⟩ | ⟨a, b⟩ | ⟨a, b, c⟩
      · unfold bareT wdT; rw [a, b, ht]
      · rw [ht] at b; exact absurd b hn
      · rw [ht, hx] at c; cases c
    · rw [ht] at h3; exact absurd h3 hn
  rw [h2] at h1
  exact h1
theorem took_mark {ts : List Tok} (hF : Fine ts) {x : List UInt8} {i j : Nat} {u : Unit} (hx : letB (by8 x 0) = false) (hn : x ≠ []) (h : textR ts x i = (some u, j)) : took ts i j [mrT x] ∧ j = i + 1 := by
  have hj := textR_eq h
  have ht : (nthT ts i).text = x := by
    unfold textR at h
    split at h
    · assumption
    · cases h
  subst hj
  refine ⟨?_, rfl⟩
  have h1 := took_one (ts := ts) (i := i) (fun e => hn (by rw [← ht, e]; rfl))
  have h2 : bareT (nthT ts i) = mrT x := by
    rcases hF i with ⟨h3, -⟩ | ⟨-, h3⟩
    · rcases right_cases h3 with ⟨a, b, c⟩ | ⟨a, b⟩ | ⟨a, b, c⟩
      · rw [ht] at c
        unfold nameB at c
        rw [hx] at c
        simp at c
      · rw [ht] at b; exact absurd b hn
      · unfold bareT mrT; rw [a, b, ht]
    · rw [ht] at h3; exact absurd h3 hn
  rw [h2] at h1
  exact h1
theorem took_name {ts : List Tok} (hF : Fine ts) {n : List UInt8} {i j : Nat} (h : nameR ts i = (some n, j)) : took ts i j [wdT n] ∧ nameB n = true := by
  have hj := nameR_eq h
  have ht : (nthT ts i).sort = 1 ∧ (nthT ts i).text = n := by
    unfold nameR at h
    split at h
    · rename_i h1
      injection h with h2 h3
      exact ⟨h1, Option.some.inj h2⟩
    · cases h
  subst hj
  have h1 := took_one (ts := ts) (i := i) (fun e => by rw [e] at ht; exact absurd ht.1 (by decide))
  rcases hF i with ⟨h3, -⟩ | ⟨h3, -⟩
  · rcases right_cases h3 with ⟨a, b, c⟩ | ⟨a, b⟩ | ⟨a, b, c⟩
    · have h2 : bareT (nthT ts i) = wdT n := by unfold bareT wdT; rw [a, b, ht.2]
      rw [h2] at h1
      exact ⟨h1, by rw [← ht.2]; exact c⟩
    · omega
    · omega
  · omega
theorem num_tok {ts : List Tok} (hF : Fine ts) {i : Nat} (h : (nthT ts i).sort = 2) : took ts i (i + 1) [nbT (nthT ts i).num] ∧ fits8 (nthT ts i).num = true := by
  have h1 := took_one (ts := ts) (i := i) (fun e => by rw [e] at h; exact absurd h (by decide))
  rcases hF i with ⟨h3, h4⟩ | ⟨h3, -⟩
  · rcases right_cases h3 with ⟨a, b, c⟩ | ⟨a, b⟩ | ⟨a, b, c⟩
    · omega
    · have h2 : bareT (nthT ts i) = nbT (nthT ts i).num := by unfold bareT nbT; rw [a, b]
      rw [h2] at h1
      exact ⟨h1, h4⟩
    · omega
  · omega
theorem took_num {ts : List Tok} (hF : Fine ts) {n : Int} {i j : Nat} (h : numR ts i = (some n, j)) : took ts i j [nbT n] ∧ fits8 n = true := by
  have hj := numR_eq h
  have ht : (nthT ts i).sort = 2 ∧ (nthT ts i).num = n := by
    unfold numR at h
    split at h
    · rename_i h1
      injection h with h2 h3
      exact ⟨h1, Option.some.inj h2⟩
    · cases h
  subst hj
  have := num_tok hF ht.1
  rw [ht.2] at this
  exact this
theorem took_nums {ts : List Tok} (hF : Fine ts) : ∀ (n i : Nat), ts.length - i ≤ n → took ts i (i + (numsR ts i).length) (numsU (numsR ts i)) ∧ ∀ x ∈ numsR ts i, fits8 x = true
  | n, i, hn => by
    by_cases h2 : (nthT ts i).sort = 2
    · have hi : i < ts.length := by
        rcases Nat.lt_or_ge i ts.length with h1 | h1
        · exact h1
        · have : nthT ts i = noTok := by unfold nthT; rw [List.getD_eq_getElem?_getD, List.getElem?_eq_none h1]; rfl
          rw [this] at h2; exact absurd h2 (by decide)
      match n, hn with
      | 0, hn => omega
      | n + 1, hn =>
        obtain ⟨a, b⟩ := num_tok hF h2
        obtain ⟨c, d⟩ := took_nums hF n (i + 1) (by omega)
        rw [nums_step hi h2]
        refine ⟨?_, fun x hx => ?_⟩
        · have := a.trans c
          rw [List.length_cons, show i + ((numsR ts (i + 1)).length + 1) = i + 1 + (numsR ts (i + 1)).length by omega]
          exact this
        · rcases List.mem_cons.1 hx with rfl | hx
          · exact b
          · exact d x hx
    · rw [nums_stop h2]
      exact ⟨took_nil ts i, fun x hx => by cases hx⟩
theorem took_place {ts : List Tok} (hF : Fine ts) {p : Plc_k} {i j : Nat} (h : placeR ts i = (some p, j)) : took ts i j (placeU p) ∧ nameB p.name = true ∧ fits8 p.port = true := by
  unfold placeR at h
  obtain ⟨n, j1, h1, h⟩ := then_eq h
  obtain ⟨u, j2, h2, h⟩ := then_eq h
  obtain ⟨q, j3, h3, h⟩ := then_eq h
  obtain ⟨a, b⟩ := took_name hF h1
  obtain ⟨c, -⟩ := took_mark hF rfl (by decide) h2
  obtain ⟨d, e⟩ := took_num hF h3
  injection h with h4 h5
  have h4 := Option.some.inj h4
  subst h4
  subst h5
  exact ⟨a.trans (c.trans d), b, e⟩
theorem took_with {ts : List Tok} (hF : Fine ts) {ns : List Int} {i j : Nat} (h : withR ts i = (some ns, j)) : took ts i j ((if ns ≠ [] then [wdT [119, 105, 116, 104]] else []) ++ numsU ns) ∧ ∀ x ∈ ns, fits8 x = true := by
  unfold withR at h
  split at h
  · rename_i h0
    obtain ⟨x, j1, h1, h⟩ := then_eq h
    have hw : textR ts [119, 105, 116, 104] i = (some (), i + 1) := by unfold textR; rw [if_pos h0]
    obtain ⟨a, -⟩ := took_word hF rfl (by decide) hw
    obtain ⟨b, c⟩ := took_num hF h1
    obtain ⟨d, e⟩ := took_nums hF (ts.length - j1) j1 (Nat.le_refl _)
    injection h with h2 h3
    have h2 := Option.some.inj h2
    subst h2
    subst h3
    refine ⟨?_, fun y hy => ?_⟩
    · rw [if_pos (List.cons_ne_nil _ _)]
      exact a.trans (b.trans d)
    · rcases List.mem_cons.1 hy with rfl | hy
      · exact c
      · exact e y hy
  · injection h with h2 h3
    have h2 := Option.some.inj h2
    subst h2
    subst h3
    exact ⟨took_nil ts i, fun x hx => by cases hx⟩
theorem abs_no : absB noPlc_k = true := rfl
theorem took_body {ts : List Tok} (hF : Fine ts) {x : Itm_k} {i j : Nat} (h : bodyR ts i = (some x, j)) : took ts i j (headU x ++ (withU x ++ numsU x.nums)) ∧ rightX x = true ∧ FitsX x := by
  unfold bodyR at h
  split at h
  · unfold actorR at h
    obtain ⟨u, j1, h1, h⟩ := then_eq h
    obtain ⟨n, j2, h2, h⟩ := then_eq h
    obtain ⟨u2, j3, h3, h⟩ := then_eq h
    obtain ⟨t, j4, h4, h⟩ := then_eq h
    obtain ⟨a1, -⟩ := took_word hF rfl (by decide) h1
    obtain ⟨a2, b2⟩ := took_name hF h2
    obtain ⟨a3, -⟩ := took_mark hF rfl (by decide) h3
    obtain ⟨a4, b4⟩ := took_name hF h4
    obtain ⟨a5, b5⟩ := took_nums hF (ts.length - j4) j4 (Nat.le_refl _)
    injection h with h6 h7
    have h6 := Option.some.inj h6
    subst h6
    subst h7
    refine ⟨a1.trans (a2.trans (a3.trans (a4.trans a5))), ?_, ⟨rfl, rfl, b5⟩⟩
    unfold rightX
    simp only [if_true, b2, b4, abs_no, Bool.and_self]
  split at h
  · unfold edgeR at h
    obtain ⟨u, j1, h1, h⟩ := then_eq h
    obtain ⟨f, j2, h2, h⟩ := then_eq h
    obtain ⟨u2, j3, h3, h⟩ := then_eq h
    obtain ⟨t, j4, h4, h⟩ := then_eq h
    obtain ⟨ns, j5, h5, h⟩ := then_eq h
    obtain ⟨a1, -⟩ := took_word hF rfl (by decide) h1
    obtain ⟨a2, b2, c2⟩ := took_place hF h2
    obtain ⟨a3, -⟩ := took_mark hF rfl (by decide) h3
    obtain ⟨a4, b4, c4⟩ := took_place hF h4
    obtain ⟨a5, b5⟩ := took_with hF h5
    injection h with h6 h7
    have h6 := Option.some.inj h6
    subst h6
    subst h7
    refine ⟨?_, ?_, ⟨c2, c4, b5⟩⟩
    · have := a1.trans (a2.trans (a3.trans (a4.trans a5)))
      unfold headU withU
      simp only [show ¬ ((2 : Int) = 1) by decide, if_false, if_true, true_and]
      simpa [List.append_assoc] using this
    · unfold rightX
      simp [b2, b4]
  split at h
  · unfold inR at h
    obtain ⟨u, j1, h1, h⟩ := then_eq h
    obtain ⟨n, j2, h2, h⟩ := then_eq h
    obtain ⟨u2, j3, h3, h⟩ := then_eq h
    obtain ⟨t, j4, h4, h⟩ := then_eq h
    obtain ⟨a1, -⟩ := took_word hF rfl (by decide) h1
    obtain ⟨a2, b2⟩ := took_name hF h2
    obtain ⟨a3, -⟩ := took_mark hF rfl (by decide) h3
    obtain ⟨a4, b4, c4⟩ := took_place hF h4
    injection h with h6 h7
    have h6 := Option.some.inj h6
    subst h6
    subst h7
    refine ⟨?_, ?_, ⟨rfl, c4, fun x hx => by cases hx⟩⟩
    · have := a1.trans (a2.trans (a3.trans a4))
      unfold headU withU
      simp only [show ¬ ((3 : Int) = 1) by decide, show ¬ ((3 : Int) = 2) by decide, if_false, if_true, false_and]
      simpa [numsU] using this
    · unfold rightX
      simp [b2, b4, bareB, abs_no]
  · unfold outR at h
    obtain ⟨u, j1, h1, h⟩ := then_eq h
    obtain ⟨f, j2, h2, h⟩ := then_eq h
    obtain ⟨u2, j3, h3, h⟩ := then_eq h
    obtain ⟨n, j4, h4, h⟩ := then_eq h
    obtain ⟨a1, -⟩ := took_word hF rfl (by decide) h1
    obtain ⟨a2, b2, c2⟩ := took_place hF h2
    obtain ⟨a3, -⟩ := took_mark hF rfl (by decide) h3
    obtain ⟨a4, b4⟩ := took_name hF h4
    injection h with h6 h7
    have h6 := Option.some.inj h6
    subst h6
    subst h7
    refine ⟨?_, ?_, ⟨c2, rfl, fun x hx => by cases hx⟩⟩
    · have := a1.trans (a2.trans (a3.trans a4))
      unfold headU withU
      simp only [show ¬ ((4 : Int) = 1) by decide, show ¬ ((4 : Int) = 2) by decide, show ¬ ((4 : Int) = 3) by decide, if_false, false_and]
      simpa [numsU] using this
    · unfold rightX
      simp [b2, b4, bareB, abs_no]
theorem took_item {ts : List Tok} (hF : Fine ts) {x : Itm_k} {i j : Nat} (h : itemR ts i = (some x, j)) : took ts i j (itemU x) ∧ rightX x = true ∧ FitsX x := by
  unfold itemR at h
  obtain ⟨y, j1, h1, h⟩ := then_eq h
  obtain ⟨u, j2, h2, h⟩ := then_eq h
  obtain ⟨a1, b1, c1⟩ := took_body hF h1
  obtain ⟨a2, -⟩ := took_mark hF rfl (by decide) h2
  injection h with h6 h7
  have h6 := Option.some.inj h6
  subst h6
  subst h7
  refine ⟨?_, b1, c1⟩
  have := a1.trans a2
  unfold itemU
  simpa [List.append_assoc] using this
theorem took_items {ts : List Tok} (hF : Fine ts) : ∀ (n i j : Nat) (xs : List Itm_k), itemsF n ts i = (some xs, j) → took ts i j (xs.flatMap itemU) ∧ ∀ x ∈ xs, rightX x = true ∧ FitsX x
  | 0, i, j, xs, h => by unfold itemsF at h; cases h
  | n + 1, i, j, xs, h => by
    unfold itemsF at h
    split at h
    · injection h with h6 h7
      have h6 := Option.some.inj h6
      subst h6
      subst h7
      exact ⟨took_nil ts i, fun x hx => by cases hx⟩
    · obtain ⟨x, j1, h1, h⟩ := then_eq h
      obtain ⟨ys, j2, h2, h⟩ := then_eq h
      obtain ⟨a1, b1⟩ := took_item hF h1
      obtain ⟨a2, b2⟩ := took_items hF n j1 j2 ys h2
      injection h with h6 h7
      have h6 := Option.some.inj h6
      subst h6
      subst h7
      refine ⟨by rw [List.flatMap_cons]; exact a1.trans a2, fun y hy => ?_⟩
      rcases List.mem_cons.1 hy with rfl | hy
      · exact b1
      · exact b2 y hy
/-- What is read is right, and its tokens are those of its one form. -/
theorem took_sketch {ts : List Tok} (hF : Fine ts) {s : Skt_k} {j : Nat} (h : sketchR ts = (some s, j)) : (∃ r, ts.map bareT = formU s.name s.items ++ r) ∧ nameB s.name = true ∧ ∀ x ∈ s.items, rightX x = true ∧ FitsX x := by
  unfold sketchR at h
  obtain ⟨u, j1, h1, h⟩ := then_eq h
  obtain ⟨n, j2, h2, h⟩ := then_eq h
  obtain ⟨u2, j3, h3, h⟩ := then_eq h
  obtain ⟨xs, j4, h4, h⟩ := then_eq h
  obtain ⟨u3, j5, h5, h⟩ := then_eq h
  obtain ⟨a1, -⟩ := took_word hF rfl (by decide) h1
  obtain ⟨a2, b2⟩ := took_name hF h2
  obtain ⟨a3, -⟩ := took_mark hF rfl (by decide) h3
  obtain ⟨a4, b4⟩ := took_items hF _ _ _ _ h4
  obtain ⟨a5, -⟩ := took_mark hF rfl (by decide) h5
  split at h
  · injection h with h6 h7
    have h6 := Option.some.inj h6
    subst h6
    refine ⟨⟨(ts.drop j5).map bareT, ?_⟩, b2, b4⟩
    have := a1.trans (a2.trans (a3.trans (a4.trans a5)))
    unfold took at this
    rw [List.drop_zero] at this
    exact this
  · cases h
/-! ### How long it is -/
def sumS (ts : List Tok) : Nat := (ts.map fun t => (spelt t).length).sum
theorem sumS_app (a b : List Tok) : sumS (a ++ b) = sumS a + sumS b := by unfold sumS; rw [List.map_append, List.sum_append_nat]
theorem sumS_cons (t : Tok) (r : List Tok) : sumS (t :: r) = (spelt t).length + sumS r := by unfold sumS; rw [List.map_cons, List.sum_cons]
theorem sumS_bare : ∀ ts : List Tok, sumS (ts.map bareT) = sumS ts
  | [] => rfl
  | t :: r => by rw [List.map_cons, sumS_cons, sumS_cons, sumS_bare r]; rfl
theorem int_pos (n : Int) : 0 < (intS n).length := by
  unfold intS
  split
  · decide
  · rename_i h
    have hn : 0 < n.natAbs := by omega
    obtain ⟨-, -, a3⟩ := natS_facts n.natAbs n.natAbs (Nat.le_refl _)
    have := (a3 hn).1
    rw [List.length_append]
    have h2 : 0 < (natS n.natAbs).length := List.length_pos_iff.2 this
    omega
theorem spelt_wd (x : List UInt8) : (spelt (wdT x)).length = x.length := rfl
theorem spelt_mr (x : List UInt8) : (spelt (mrT x)).length = x.length := rfl
theorem spelt_nb (n : Int) : (spelt (nbT n)).length = (intS n).length := rfl
theorem nums_short : ∀ ns : List Int, (numsT ns).length ≤ 4 * sumS (numsU ns)
  | [] => Nat.zero_le _
  | n :: r => by
    have ih := nums_short r
    have := int_pos n
    show (numT n ++ numsT r).length ≤ 4 * sumS (nbT n :: numsU r)
    rw [sumS_cons, spelt_nb, List.length_append]
    unfold numT
    rw [List.length_cons, itoa_intS]
    omega
theorem place_sum (p : Plc_k) : sumS (placeU p) = p.name.length + (1 + (intS p.port).length) := by
  unfold placeU
  rw [sumS_cons, sumS_cons, sumS_cons, spelt_wd, spelt_mr, spelt_nb]
  rfl
theorem place_lenT (p : Plc_k) : (placeT p).length = p.name.length + 1 + (intS p.port).length := by
  unfold placeT
  rw [itoa_intS]; simp; omega
theorem item_short (x : Itm_k) : (itemT x).length ≤ 4 * sumS (itemU x) := by
  have hn := nums_short x.nums
  unfold itemT itemU
  rw [sumS_app, sumS_app, sumS_app, List.length_append, List.length_append, List.length_append]
  have hw : (withT x).length ≤ 4 * sumS (withU x) := by
    unfold withT withU
    split
    · decide
    · decide
  have hh : (headT x).length + 2 ≤ 4 * (sumS (headU x) + 1) := by
    have hf := place_lenT x.frm; have ht := place_lenT x.to; have qf := place_sum x.frm; have qt := place_sum x.to
    unfold headT headU
    split
    · simp only [sumS_cons, spelt_wd, spelt_mr, List.length_append, List.length_cons, List.length_nil]
      omega
    split
    · simp only [sumS_cons, sumS_app, spelt_wd, spelt_mr, List.length_append, List.length_cons, List.length_nil, hf, ht, qf, qt]
      omega
    split
    · simp only [sumS_cons, spelt_wd, spelt_mr, List.length_append, List.length_cons, List.length_nil, ht, qt]
      omega
    · simp only [sumS_cons, sumS_app, spelt_wd, spelt_mr, List.length_append, List.length_cons, List.length_nil, hf, qf]
      omega
  have he : sumS [mrT [59]] = 1 := rfl
  rw [he]
  show _ + _ + _ + 2 ≤ _
  omega
theorem items_short : ∀ xs : List Itm_k, (xs.flatMap itemT).length ≤ 4 * sumS (xs.flatMap itemU)
  | [] => Nat.zero_le _
  | x :: r => by
    rw [List.flatMap_cons, List.flatMap_cons, sumS_app, List.length_append]
    have := items_short r; have := item_short x; omega
theorem form_short (nm : List UInt8) (xs : List Itm_k) : (headS nm ++ xs.flatMap itemT ++ [125, 10]).length ≤ 4 * sumS (formU nm xs) := by
  have h := items_short xs
  unfold headS formU
  simp only [sumS_cons, sumS_app, spelt_wd, spelt_mr, List.length_append, List.length_cons, List.length_nil]
  omega
/-! ### Tokens as they lie in a text -/
def Laid (l : List UInt8) : Nat → List Tok → Prop
  | _, [] => False
  | p, t :: r => ∃ q : Nat, t.place = (q : Int) ∧ p ≤ q ∧ q + (spelt t).length ≤ l.length ∧ (l.drop q).take (spelt t).length = spelt t ∧ fits8 t.num = true ∧ ((t.sort = 0 ∧ r = [] ∧ q + (spelt t).length = l.length) ∨ (t.sort ≠ 0 ∧ rightB t = true ∧ Laid l (q + (spelt t).length) r))
theorem laid_of {l : List UInt8} : ∀ (n p : Nat) (ts : List Tok), ts.length ≤ n → p ≤ l.length → allL p (l.drop p) = ⟨ts, 0, 0⟩ → Laid l p ts
  | 0, p, ts, hn, hp, h => by
    obtain ⟨t, rest, q, s, rfl, st⟩ := place_step_k hp h
    simp at hn
  | n + 1, p, ts, hn, hp, h => by
    obtain ⟨t, rest, q, s, rfl, st⟩ := place_step_k hp h
    have es := st.spelt
    have r1 := st.room
    have r2 := st.stands
    subst es
    refine ⟨q, st.place, st.le, r1, r2, st.fits, ?_⟩
    rcases st.ways with ⟨a, b, c⟩ | ⟨a, b, c, d⟩
    · exact .inl ⟨a, b, c⟩
    · exact .inr ⟨a, b, laid_of n _ rest (by simp at hn; omega) r1 d⟩
theorem laid_sum {l : List UInt8} : ∀ (ts : List Tok) (p : Nat), Laid l p ts → p + sumS ts ≤ l.length
  | [], p, h => by cases h
  | t :: r, p, h => by
    obtain ⟨q, -, h2, h3, -, -, h6⟩ := h
    rw [sumS_cons]
    rcases h6 with ⟨-, rfl, -⟩ | ⟨-, -, h7⟩
    · show p + ((spelt t).length + 0) ≤ _; omega
    · have := laid_sum r _ h7
      omega
theorem laid_fine {l : List UInt8} : ∀ (ts : List Tok) (p : Nat), Laid l p ts → Ended ts → Fine ts
  | [], p, h, _ => by cases h
  | t :: r, p, h, hE => by
    obtain ⟨q, -, h2, h3, -, h5, h6⟩ := h
    rcases h6 with ⟨a, rfl, -⟩ | ⟨a, b, h7⟩
    · intro k
      match k with
      | 0 => exact .inr ⟨a, hE.text⟩
      | k + 1 => exact .inr ⟨rfl, rfl⟩
    · have hr : r ≠ [] := by intro e; rw [e] at h7; cases h7
      have hE2 : Ended r := by
        have hp := hE.pos
        have h1 : 0 < r.length := List.length_pos_iff.2 hr
        have e : (t :: r).length - 1 = (r.length - 1) + 1 := by rw [List.length_cons]; omega
        refine ⟨h1, ?_, ?_⟩
        · have := hE.sort; rw [e] at this; exact this
        · have := hE.text; rw [e] at this; exact this
      have ih := laid_fine r _ h7 hE2
      intro k
      match k with
      | 0 => exact .inl ⟨b, h5⟩
      | k + 1 => exact ih k
theorem text_laid {l : List UInt8} (h : (textG l).err = 0) : l.length ≤ 1048576 ∧ Laid l 0 (textG l).toks := by
  by_cases hl : 1048576 < l.length
  · unfold textG at h
    rw [if_pos hl] at h
    cases h
  · have e : textG l = allL 0 l := by unfold textG; rw [if_neg hl]
    rw [e] at h ⊢
    refine ⟨by omega, laid_of _ 0 _ (Nat.le_refl _) (Nat.zero_le _) ?_⟩
    rw [List.drop_zero]
    have hz := allL_zero h
    generalize allL 0 l = G at *
    obtain ⟨ts, er, pl⟩ := G
    simp only at h hz
    subst h
    subst hz
    rfl
/-- What is read of a text: right, and printed in at most four times as many bytes. -/
theorem text_right {l : List UInt8} {s : Skt_k} {j : Nat} (h : (textG l).err = 0) (hs : sketchR (textG l).toks = (some s, j)) :
    nameB s.name = true ∧ (∀ x ∈ s.items, rightX x = true ∧ FitsX x) ∧ (headS s.name ++ s.items.flatMap itemT ++ [125, 10]).length ≤ 4 * l.length := by
  obtain ⟨hl, hL⟩ := text_laid h
  have hF := laid_fine _ _ hL (text_ended h)
  obtain ⟨⟨r, hr⟩, hn, hx⟩ := took_sketch hF hs
  refine ⟨hn, hx, ?_⟩
  have h1 := form_short s.name s.items
  have h2 := laid_sum _ _ hL
  have h3 := congrArg sumS hr
  rw [sumS_bare, sumS_app] at h3
  omega
end Go.Proofs.YtolpelfdhcccnaaGreatDoor
namespace Go.Proofs.YtolpelfdhcccnaaGreatDoor
open Go.ChangeShapes Go.WideShapes Go.ChangeAt Go.RowKit
theorem text_items {l : List UInt8} {s : Skt_k} {j : Nat} (h : (textG l).err = 0) (hs : sketchR (textG l).toks = (some s, j)) : s.items.length ≤ 2000000 := by
  obtain ⟨hl, hL⟩ := text_laid h
  obtain ⟨⟨r, hr⟩, -⟩ := took_sketch (laid_fine _ _ hL (text_ended h)) hs
  have h1 := congrArg List.length hr
  rw [List.length_map, List.length_append] at h1
  have h2 := items_len s.items
  have h3 : (s.items.flatMap itemU).length ≤ (formU s.name s.items).length := by
    unfold formU
    simp only [List.length_cons, List.length_append]
    omega
  have := text_len5 l
  omega
theorem Tab.on5 {w W : World} (h : Tab w.heap.size w) (hb : Below w.heap.size w W) : Tab W.heap.size W := fun w' h' => h w' (hb.trans (h'.mono hb.size))
theorem bodyR_few {ts : List Tok} (hT : ∀ t ∈ ts, In64 t.num) (hl : ts.length ≤ 2000000) {i j : Nat} {x : Itm_k} (h : bodyR ts i = (some x, j)) : x.nums.length ≤ 2000001 := by
  unfold bodyR at h
  split at h
  · unfold actorR at h
    obtain ⟨a1, j1, h1, h⟩ := then_eq h
    obtain ⟨a2, j2, h2, h⟩ := then_eq h
    obtain ⟨a3, j3, h3, h⟩ := then_eq h
    obtain ⟨a4, j4, h4, h⟩ := then_eq h
    cases h
    have := numsR_len5 hl j4
    show (numsR ts j4).length ≤ _; omega
  split at h
  · unfold edgeR at h
    obtain ⟨a1, j1, h1, h⟩ := then_eq h
    obtain ⟨a2, j2, h2, h⟩ := then_eq h
    obtain ⟨a3, j3, h3, h⟩ := then_eq h
    obtain ⟨a4, j4, h4, h⟩ := then_eq h
    obtain ⟨a5, j5, h5, h⟩ := then_eq h
    cases h
    obtain ⟨w1, w2⟩ := withR_in5 hT hl h5
    show a5.length ≤ _; omega
  split at h
  · unfold inR at h
    obtain ⟨a1, j1, h1, h⟩ := then_eq h
    obtain ⟨a2, j2, h2, h⟩ := then_eq h
    obtain ⟨a3, j3, h3, h⟩ := then_eq h
    obtain ⟨a4, j4, h4, h⟩ := then_eq h
    cases h
    simp
  · unfold outR at h
    obtain ⟨a1, j1, h1, h⟩ := then_eq h
    obtain ⟨a2, j2, h2, h⟩ := then_eq h
    obtain ⟨a3, j3, h3, h⟩ := then_eq h
    obtain ⟨a4, j4, h4, h⟩ := then_eq h
    cases h
    simp
theorem itemsF_few {ts : List Tok} (hT : ∀ t ∈ ts, In64 t.num) (hl : ts.length ≤ 2000000) : ∀ (n i j : Nat) (xs : List Itm_k), itemsF n ts i = (some xs, j) → ∀ x ∈ xs, x.nums.length ≤ 2000001
  | 0, i, j, xs, h => by cases h
  | n + 1, i, j, xs, h => by
    by_cases he : (nthT ts i).text = [125]
    · have e : itemsF (n + 1) ts i = (some [], i) := by
        show (if _ then _ else _) = _
        rw [if_pos he]
      rw [e] at h
      cases h
      intro x hx; cases hx
    · rw [itemsF_step he] at h
      obtain ⟨a1, j1, h1, h⟩ := then_eq h
      obtain ⟨a2, j2, h2, h⟩ := then_eq h
      cases h
      unfold itemR at h1
      obtain ⟨b1, k1, g1, h1⟩ := then_eq h1
      obtain ⟨b2, k2, g2, h1⟩ := then_eq h1
      cases h1
      intro x hx
      rcases List.mem_cons.1 hx with rfl | hx
      · exact bodyR_few hT hl g1
      · exact itemsF_few hT hl n _ _ _ h2 x hx
theorem sketchR_few {ts : List Tok} (hT : ∀ t ∈ ts, In64 t.num) (hl : ts.length ≤ 2000000) {s : Skt_k} {j : Nat} (h : sketchR ts = (some s, j)) : ∀ x ∈ s.items, x.nums.length ≤ 2000001 := by
  unfold sketchR at h
  obtain ⟨a1, j1, h1, h⟩ := then_eq h
  obtain ⟨a2, j2, h2, h⟩ := then_eq h
  obtain ⟨a3, j3, h3, h⟩ := then_eq h
  obtain ⟨a4, j4, h4, h⟩ := then_eq h
  obtain ⟨a5, j5, h5, h⟩ := then_eq h
  split at h
  · cases h
    exact itemsF_few hT hl _ _ _ _ h4
  · cases h
/-- What is read of a text: a name, items, an error and its place. -/
def outP (l : List UInt8) : List UInt8 × List Itm_k × Int × Int :=
  if (textG l).err ≠ 0 then ([], [], (textG l).err, (textG l).place)
  else match sketchR (textG l).toks with
    | (none, j) => ([], [], 50, (nthT (textG l).toks j).place)
    | (some s, _) => (s.name, s.items, 0, 0)
end Go.Proofs.YtolpelfdhcccnaaGreatDoor
namespace Go.Proofs.YtolpelfdhcccnaaGreatDoor
open Go.RowKit
/-! ### Places -/
def Stand (l s : List UInt8) (p : Int) : Prop := ∃ q : Nat, p = (q : Int) ∧ q + s.length ≤ l.length ∧ (l.drop q).take s.length = s
theorem spelt_pos {t : Tok} (h : rightB t = true) : 0 < (spelt t).length := by
  unfold spelt
  rcases right_cases h with ⟨a, -, c⟩ | ⟨a, -⟩ | ⟨a, -, c⟩
  · rw [if_neg (by omega)]
    cases ht : t.text with
    | nil => rw [ht] at c; exact absurd c (by decide)
    | cons x r => simp
  · rw [if_pos a]; exact int_pos _
  · rw [if_neg (by omega)]
    cases ht : t.text with
    | nil => rw [ht] at c; exact absurd c (by decide)
    | cons x r => simp
theorem nth_succ (t : Tok) (r : List Tok) (k : Nat) : nthT (t :: r) (k + 1) = nthT r k := rfl
theorem laid_stand {l : List UInt8} : ∀ (ts : List Tok) (p : Nat), Laid l p ts → ∀ k, k < ts.length → Stand l (spelt (nthT ts k)) (nthT ts k).place ∧ (p : Int) ≤ (nthT ts k).place
  | [], p, h => by cases h
  | t :: r, p, h => by
    obtain ⟨q, h1, h2, h3, h4, -, h6⟩ := h
    intro k hk
    match k with
    | 0 => exact ⟨⟨q, h1, h3, h4⟩, by show (p : Int) ≤ t.place; rw [h1]; omega⟩
    | k + 1 =>
      rw [nth_succ]
      rcases h6 with ⟨-, rfl, -⟩ | ⟨-, -, h7⟩
      · simp at hk
      · have := laid_stand r _ h7 k (by simp at hk; omega)
        exact ⟨this.1, by have := this.2; omega⟩
theorem laid_rise {l : List UInt8} : ∀ (ts : List Tok) (p : Nat), Laid l p ts → ∀ k m, k < m → m < ts.length → (nthT ts k).place < (nthT ts m).place
  | [], p, h => by cases h
  | t :: r, p, h => by
    obtain ⟨q, h1, h2, h3, h4, -, h6⟩ := h
    intro k m hkm hm
    match m with
    | 0 => omega
    | m + 1 =>
      rcases h6 with ⟨-, rfl, -⟩ | ⟨-, hr, h7⟩
      · simp at hm
      · match k with
        | 0 =>
          have h8 := (laid_stand r _ h7 m (by simp at hm; omega)).2
          have h9 := spelt_pos hr
          rw [nth_succ]
          show t.place < _
          rw [h1]
          omega
        | k + 1 =>
          rw [nth_succ, nth_succ]
          exact laid_rise r _ h7 k m (by omega) (by simp at hm; omega)
theorem word_stand {l : List UInt8} {ts : List Tok} (hL : Laid l 0 ts) {k : Nat} (hk : k < ts.length) (h : (nthT ts k).sort ≠ 2) : Stand l (nthT ts k).text (nthT ts k).place := by
  have h1 := (laid_stand ts 0 hL k hk).1
  unfold spelt at h1
  rw [if_neg h] at h1
  exact h1
def lastP (x : Itm_k) : Int := max (max x.place x.frm.place) x.to.place
/-- An item's places, behind one. -/
def ItemOk (l : List UInt8) (p : Int) (x : Itm_k) : Prop :=
  p < x.place ∧ ((x.kind = 1 ∧ Stand l [97, 99, 116, 111, 114] x.place ∧ x.frm.place = 0 ∧ x.to.place = 0) ∨
   (x.kind = 2 ∧ Stand l [101, 100, 103, 101] x.place ∧ x.place < x.frm.place ∧ x.frm.place < x.to.place ∧ Stand l x.frm.name x.frm.place ∧ Stand l x.to.name x.to.place) ∨
   (x.kind = 3 ∧ Stand l [105, 110] x.place ∧ x.frm.place = 0 ∧ x.place < x.to.place ∧ Stand l x.to.name x.to.place) ∨
   (x.kind = 4 ∧ Stand l [111, 117, 116] x.place ∧ x.place < x.frm.place ∧ Stand l x.frm.name x.frm.place ∧ x.to.place = 0))
def PlacesOk (l : List UInt8) : Int → List Itm_k → Prop
  | _, [] => True
  | p, x :: r => ItemOk l p x ∧ PlacesOk l (lastP x) r
theorem text_tok {ts : List Tok} {x : List UInt8} {i j : Nat} {u : Unit} (h : textR ts x i = (some u, j)) : (nthT ts i).text = x ∧ j = i + 1 := by
  unfold textR at h
  split at h
  · rename_i h1
    injection h with h2 h3
    exact ⟨h1, h3.symm⟩
  · cases h
theorem place_tok {ts : List Tok} (hE : Ended ts) {p : Plc_k} {i j : Nat} (hi : i < ts.length) (h : placeR ts i = (some p, j)) : (nthT ts i).sort = 1 ∧ p.name = (nthT ts i).text ∧ p.place = (nthT ts i).place ∧ i + 2 < j ∧ j < ts.length := by
  unfold placeR at h
  obtain ⟨n, j1, h1, h⟩ := then_eq h
  obtain ⟨u, j2, h2, h⟩ := then_eq h
  obtain ⟨q, j3, h3, h⟩ := then_eq h
  have e1 := nameR_eq h1
  have e2 := (text_tok h2).2
  have e3 := numR_eq h3
  have hs : (nthT ts i).sort = 1 ∧ (nthT ts i).text = n := by
    unfold nameR at h1
    split at h1
    · rename_i h4
      injection h1 with h5 h6
      exact ⟨h4, Option.some.inj h5⟩
    · cases h1
  have hs3 : (nthT ts j2).sort = 2 := by
    unfold numR at h3
    split at h3
    · assumption
    · cases h3
  injection h with h4 h5
  have h4 := Option.some.inj h4
  subst h4
  subst h5
  have b1 := hE.sort_lt hi (by decide) hs.1
  have b2 := hE.text_lt (i := j1) (by omega) (by decide) (text_tok h2).1
  have b3 := hE.sort_lt (i := j2) (by omega) (by decide) hs3
  exact ⟨hs.1, hs.2.symm, rfl, by omega, by omega⟩
theorem item_places {l : List UInt8} {ts : List Tok} (hL : Laid l 0 ts) (hE : Ended ts) {x : Itm_k} {i j : Nat} {p : Int} (hi : i < ts.length) (hF : Fine ts) (hp : p < (nthT ts i).place) (h : itemR ts i = (some x, j)) : ItemOk l p x ∧ lastP x < (nthT ts j).place ∧ j < ts.length := by
  have hj := itemR_good h hE hi
  have rise := laid_rise ts 0 hL
  have word : ∀ k y, k < ts.length → (nthT ts k).text = y → y ≠ [] → Stand l y (nthT ts k).place := fun k y hk hy hn => by
    rw [← hy]
    refine word_stand hL hk (fun h2 => ?_)
    rcases hF k with ⟨h3, -⟩ | ⟨h3, -⟩
    · rcases right_cases h3 with ⟨a, -⟩ | ⟨-, b⟩ | ⟨a, -⟩
      · omega
      · exact hn (by rw [← hy]; exact b)
      · omega
    · omega
  have name : ∀ k, k < ts.length → (nthT ts k).sort = 1 → Stand l (nthT ts k).text (nthT ts k).place := fun k hk hs => word_stand hL hk (by omega)
  have zero : ∀ k, k < ts.length → 0 ≤ (nthT ts k).place := fun k hk => by have := (laid_stand ts 0 hL k hk).2; omega
  unfold itemR at h
  obtain ⟨y, j1, h1, h⟩ := then_eq h
  obtain ⟨u, j2, h2, h⟩ := then_eq h
  have e2 := (text_tok h2).2
  injection h with h3 h4
  have h3 := Option.some.inj h3
  subst h3
  subst h4
  have hij := bodyR_lt h1
  refine ⟨?_, ?_, hj⟩
  all_goals
    unfold bodyR at h1
    split at h1
  · rename_i ht
    unfold actorR at h1
    obtain ⟨u1, k1, g1, h1⟩ := then_eq h1
    obtain ⟨u2, k2, g2, h1⟩ := then_eq h1
    obtain ⟨u3, k3, g3, h1⟩ := then_eq h1
    obtain ⟨u4, k4, g4, h1⟩ := then_eq h1
    injection h1 with h5 h6
    have h5 := Option.some.inj h5
    subst h5
    exact ⟨hp, .inl ⟨rfl, word i _ hi ht (by decide), rfl, rfl⟩⟩
  · split at h1
    · rename_i ht
      unfold edgeR at h1
      obtain ⟨u1, k1, g1, h1⟩ := then_eq h1
      obtain ⟨f, k2, g2, h1⟩ := then_eq h1
      obtain ⟨u3, k3, g3, h1⟩ := then_eq h1
      obtain ⟨t, k4, g4, h1⟩ := then_eq h1
      obtain ⟨ns, k5, g5, h1⟩ := then_eq h1
      have q1 := (text_tok g1).2
      have q3 := (text_tok g3)
      have b1 := hE.text_lt hi (by decide) ht
      obtain ⟨m1, m2, m3, m4, m5⟩ := place_tok hE (i := k1) (by omega) g2
      have b3 := hE.text_lt (i := k2) (by omega) (by decide) q3.1
      obtain ⟨n1, n2, n3, n4, n5⟩ := place_tok hE (i := k3) (by omega) g4
      injection h1 with h5 h6
      have h5 := Option.some.inj h5
      subst h5
      refine ⟨hp, .inr (.inl ⟨rfl, word i _ hi ht (by decide), ?_, ?_, ?_, ?_⟩)⟩
      · show (nthT ts i).place < f.place
        rw [m3]; exact rise _ _ (by omega) (by omega)
      · show f.place < t.place
        rw [m3, n3]; exact rise _ _ (by omega) (by omega)
      · show Stand l f.name f.place
        rw [m2, m3]; exact name _ (by omega) m1
      · show Stand l t.name t.place
        rw [n2, n3]; exact name _ (by omega) n1
    · split at h1
      · rename_i ht
        unfold inR at h1
        obtain ⟨u1, k1, g1, h1⟩ := then_eq h1
        obtain ⟨n, k2, g2, h1⟩ := then_eq h1
        obtain ⟨u3, k3, g3, h1⟩ := then_eq h1
        obtain ⟨t, k4, g4, h1⟩ := then_eq h1
        have q1 := (text_tok g1).2
        have q2 := nameR_eq g2
        have q3 := (text_tok g3)
        have b1 := hE.text_lt hi (by decide) ht
        have b2 : k2 < ts.length := by have := nameR_in hE (i := k1) (by omega); rw [g2] at this; exact this
        have b3 := hE.text_lt (i := k2) b2 (by decide) q3.1
        obtain ⟨n1, n2, n3, n4, n5⟩ := place_tok hE (i := k3) (by omega) g4
        injection h1 with h5 h6
        have h5 := Option.some.inj h5
        subst h5
        refine ⟨hp, .inr (.inr (.inl ⟨rfl, word i _ hi ht (by decide), rfl, ?_, ?_⟩))⟩
        · show (nthT ts i).place < t.place
          rw [n3]; exact rise _ _ (by omega) (by omega)
        · show Stand l t.name t.place
          rw [n2, n3]; exact name _ (by omega) n1
      · unfold outR at h1
        obtain ⟨u1, k1, g1, h1⟩ := then_eq h1
        obtain ⟨f, k2, g2, h1⟩ := then_eq h1
        obtain ⟨u3, k3, g3, h1⟩ := then_eq h1
        obtain ⟨n, k4, g4, h1⟩ := then_eq h1
        have q1 := (text_tok g1)
        have b1 := hE.text_lt hi (by decide) q1.1
        obtain ⟨m1, m2, m3, m4, m5⟩ := place_tok hE (i := k1) (by omega) g2
        injection h1 with h5 h6
        have h5 := Option.some.inj h5
        subst h5
        refine ⟨hp, .inr (.inr (.inr ⟨rfl, word i _ hi q1.1 (by decide), ?_, ?_, rfl⟩))⟩
        · show (nthT ts i).place < f.place
          rw [m3]; exact rise _ _ (by omega) (by omega)
        · show Stand l f.name f.place
          rw [m2, m3]; exact name _ (by omega) m1
  · unfold actorR at h1
    obtain ⟨u1, k1, g1, h1⟩ := then_eq h1
    obtain ⟨u2, k2, g2, h1⟩ := then_eq h1
    obtain ⟨u3, k3, g3, h1⟩ := then_eq h1
    obtain ⟨u4, k4, g4, h1⟩ := then_eq h1
    injection h1 with h5 h6
    have h5 := Option.some.inj h5
    subst h5
    have r1 := rise i j2 (by omega) hj
    have r2 := zero i hi
    show max (max (nthT ts i).place 0) 0 < _
    omega
  · split at h1
    · rename_i ht
      unfold edgeR at h1
      obtain ⟨u1, k1, g1, h1⟩ := then_eq h1
      obtain ⟨f, k2, g2, h1⟩ := then_eq h1
      obtain ⟨u3, k3, g3, h1⟩ := then_eq h1
      obtain ⟨t, k4, g4, h1⟩ := then_eq h1
      obtain ⟨ns, k5, g5, h1⟩ := then_eq h1
      have q1 := (text_tok g1).2
      have q3 := (text_tok g3)
      have b1 := hE.text_lt hi (by decide) ht
      obtain ⟨m1, m2, m3, m4, m5⟩ := place_tok hE (i := k1) (by omega) g2
      have b3 := hE.text_lt (i := k2) (by omega) (by decide) q3.1
      obtain ⟨n1, n2, n3, n4, n5⟩ := place_tok hE (i := k3) (by omega) g4
      have q5 := withR_le g5
      injection h1 with h5 h6
      have h5 := Option.some.inj h5
      subst h5
      have r1 := rise i j2 (by omega) hj
      have r2 := rise k1 j2 (by omega) hj
      have r3 := rise k3 j2 (by omega) hj
      show max (max (nthT ts i).place f.place) t.place < _
      rw [m3, n3]
      omega
    · split at h1
      · rename_i ht
        unfold inR at h1
        obtain ⟨u1, k1, g1, h1⟩ := then_eq h1
        obtain ⟨n, k2, g2, h1⟩ := then_eq h1
        obtain ⟨u3, k3, g3, h1⟩ := then_eq h1
        obtain ⟨t, k4, g4, h1⟩ := then_eq h1
        have q1 := (text_tok g1).2
        have q2 := nameR_eq g2
        have q3 := (text_tok g3)
        have b1 := hE.text_lt hi (by decide) ht
        have b2 : k2 < ts.length := by have := nameR_in hE (i := k1) (by omega); rw [g2] at this; exact this
        have b3 := hE.text_lt (i := k2) b2 (by decide) q3.1
        obtain ⟨n1, n2, n3, n4, n5⟩ := place_tok hE (i := k3) (by omega) g4
        injection h1 with h5 h6
        have h5 := Option.some.inj h5
        subst h5
        have r1 := rise i j2 (by omega) hj
        have r3 := rise k3 j2 (by omega) hj
        have r4 := zero i hi
        show max (max (nthT ts i).place 0) t.place < _
        rw [n3]
        omega
      · unfold outR at h1
        obtain ⟨u1, k1, g1, h1⟩ := then_eq h1
        obtain ⟨f, k2, g2, h1⟩ := then_eq h1
        obtain ⟨u3, k3, g3, h1⟩ := then_eq h1
        obtain ⟨n, k4, g4, h1⟩ := then_eq h1
        have q1 := (text_tok g1)
        have q3 := (text_tok g3)
        have q4 := nameR_eq g4
        have b1 := hE.text_lt hi (by decide) q1.1
        obtain ⟨m1, m2, m3, m4, m5⟩ := place_tok hE (i := k1) (by omega) g2
        injection h1 with h5 h6
        have h5 := Option.some.inj h5
        subst h5
        have r1 := rise i j2 (by omega) hj
        have r2 := rise k1 j2 (by omega) hj
        have r4 := zero i hi
        show max (max (nthT ts i).place f.place) 0 < _
        rw [m3]
        omega
theorem items_places {l : List UInt8} {ts : List Tok} (hL : Laid l 0 ts) (hE : Ended ts) (hF : Fine ts) : ∀ (n i j : Nat) (xs : List Itm_k) (p : Int), i < ts.length → p < (nthT ts i).place → itemsF n ts i = (some xs, j) → PlacesOk l p xs
  | 0, i, j, xs, p, _, _, h => by unfold itemsF at h; cases h
  | n + 1, i, j, xs, p, hi, hp, h => by
    unfold itemsF at h
    split at h
    · injection h with h6 h7
      have h6 := Option.some.inj h6
      subst h6
      trivial
    · obtain ⟨x, j1, h1, h⟩ := then_eq h
      obtain ⟨ys, j2, h2, h⟩ := then_eq h
      obtain ⟨a, b, c⟩ := item_places hL hE hi hF hp h1
      injection h with h6 h7
      have h6 := Option.some.inj h6
      subst h6
      exact ⟨a, items_places hL hE hF n j1 j2 ys _ c b h2⟩
theorem sketch_places {l : List UInt8} {ts : List Tok} (hL : Laid l 0 ts) (hE : Ended ts) (hF : Fine ts) {s : Skt_k} {j : Nat} (h : sketchR ts = (some s, j)) : PlacesOk l 0 s.items := by
  unfold sketchR at h
  obtain ⟨u, j1, h1, h⟩ := then_eq h
  obtain ⟨n, j2, h2, h⟩ := then_eq h
  obtain ⟨u2, j3, h3, h⟩ := then_eq h
  obtain ⟨xs, j4, h4, h⟩ := then_eq h
  obtain ⟨u3, j5, h5, h⟩ := then_eq h
  have q1 := text_tok h1
  have q2 := nameR_eq h2
  have q3 := text_tok h3
  have b1 := hE.text_lt hE.pos (by decide) q1.1
  have b2 : j2 < ts.length := by have := nameR_in hE (i := j1) (by omega); rw [h2] at this; exact this
  have b3 := hE.text_lt (i := j2) b2 (by decide) q3.1
  have r := laid_rise ts 0 hL 0 j3 (by omega) (by omega)
  have z := (laid_stand ts 0 hL 0 hE.pos).2
  split at h
  · injection h with h6 h7
    have h6 := Option.some.inj h6
    subst h6
    exact items_places hL hE hF _ _ _ _ 0 (by omega) (by omega) h4
  · cases h
end Go.Proofs.YtolpelfdhcccnaaGreatDoor
