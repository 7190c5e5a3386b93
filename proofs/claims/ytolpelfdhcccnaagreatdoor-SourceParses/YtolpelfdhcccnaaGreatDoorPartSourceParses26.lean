/- Texts of one chain, laid one behind the other. -/
import Derived.Test.YtolpelfdhcccnaaGreatDoorPartSourceParses23
import Derived.Test.YtolpelfdhcccnaaGreatDoorPartSourceParses24
import Derived.Test.YtolpelfdhcccnaaGreatDoorPartSourceParses21
import Derived.Deep.QuietTactic
import Derived.BigQuiet
namespace Go.Proofs.YtolpelfdhcccnaaGreatDoor
open Go.ChangeShapes Go.WideShapes Go.ChangeAt Go.RowKit
theorem dec_nat : ∀ (m u : Nat), u ≤ m → u ≠ 0 → Lib.decDigits u = natS u
  | 0, u, h, h0 => by omega
  | m + 1, u, h, h0 => by
    rw [Lib.decDigits, natS_pos h0]
    by_cases h1 : u < 10
    · rw [dif_pos h1, show u / 10 = 0 by omega, natS_zero, show u % 10 = u by omega]
      rfl
    · rw [dif_neg h1, dec_nat m (u / 10) (by omega) (by omega)]
      rfl
theorem itoa_intS (n : Int) : Lib.itoa n = intS n := by
  unfold Lib.itoa intS
  by_cases h0 : n = 0
  · subst h0
    rw [if_neg (by decide), if_pos rfl]
    rw [Lib.decDigits]
    rfl
  · rw [if_neg h0]
    by_cases h1 : n < 0
    · rw [if_pos h1, decide_eq_true h1, dec_nat n.natAbs n.natAbs (Nat.le_refl _) (by omega)]
      rfl
    · rw [if_neg h1, decide_eq_false h1, show n.toNat = n.natAbs by omega, dec_nat n.natAbs n.natAbs (Nat.le_refl _) (by omega)]
      rfl
theorem small_of {n : Int} (h : -9223372036854775808 ≤ n ∧ n ≤ 9223372036854775807) : Small n := by
  refine ⟨h, ?_⟩
  rw [itoa_intS]
  unfold intS
  by_cases h0 : n = 0
  · rw [if_pos h0]; decide
  · rw [if_neg h0, List.length_append]
    have h1 := natS_len 19 n.natAbs (by omega)
    have h2 : (sgn (decide (n < 0))).length ≤ 1 := by
      cases decide (n < 0) <;> decide
    omega
def In64 (n : Int) : Prop := -9223372036854775808 ≤ n ∧ n ≤ 9223372036854775807
theorem numsL_mem : ∀ (l : List Tok) (x : Int), x ∈ numsL l → ∃ t ∈ l, x = t.num
  | [], x, h => by cases h
  | t :: r, x, h => by
    unfold numsL at h
    split at h
    · rcases List.mem_cons.1 h with rfl | h
      · exact ⟨t, by simp, rfl⟩
      · obtain ⟨u, hu, e⟩ := numsL_mem r x h
        exact ⟨u, by simp [hu], e⟩
    · cases h
theorem numsL_len : ∀ (l : List Tok), (numsL l).length ≤ l.length
  | [] => Nat.le_refl _
  | t :: r => by
    unfold numsL
    have := numsL_len r
    split
    · simp; omega
    · simp
theorem numsR_in5 {ts : List Tok} (hT : ∀ t ∈ ts, In64 t.num) (i : Nat) : ∀ x ∈ numsR ts i, Small x := fun x hx => by
  obtain ⟨t, ht, rfl⟩ := numsL_mem _ x hx
  exact small_of (hT t (List.mem_of_mem_drop ht))
theorem numsR_len5 {ts : List Tok} (hl : ts.length ≤ 2000000) (i : Nat) : (numsR ts i).length ≤ 2000000 := by
  have := numsL_len (ts.drop i)
  rw [List.length_drop] at this
  unfold numsR
  omega
theorem nth_in5 {ts : List Tok} (hT : ∀ t ∈ ts, In64 t.num) (k : Nat) : In64 (nthT ts k).num := by
  unfold nthT
  rw [List.getD_eq_getElem?_getD]
  rcases Nat.lt_or_ge k ts.length with h | h
  · rw [List.getElem?_eq_getElem h]
    exact hT _ (List.getElem_mem h)
  · rw [List.getElem?_eq_none h]
    exact ⟨by decide, by decide⟩
theorem numR_in5 {ts : List Tok} (hT : ∀ t ∈ ts, In64 t.num) {i j : Nat} {n : Int} (h : numR ts i = (some n, j)) : Small n := by
  unfold numR at h
  split at h
  · cases h
    exact small_of (nth_in5 hT i)
  · cases h
theorem placeR_in5 {ts : List Tok} (hT : ∀ t ∈ ts, In64 t.num) {i j : Nat} {p : Plc_k} (h : placeR ts i = (some p, j)) : Small p.port := by
  unfold placeR at h
  obtain ⟨a1, j1, h1, h⟩ := then_eq h
  obtain ⟨a2, j2, h2, h⟩ := then_eq h
  obtain ⟨a3, j3, h3, h⟩ := then_eq h
  cases h
  exact numR_in5 hT h3
theorem noPlc_small : Small noPlc_k.port := small_of ⟨by decide, by decide⟩
theorem nil_small : ∀ n ∈ ([] : List Int), Small n := fun _ h => by cases h
theorem withR_in5 {ts : List Tok} (hT : ∀ t ∈ ts, In64 t.num) (hl : ts.length ≤ 2000000) {i j : Nat} {ns : List Int} (h : withR ts i = (some ns, j)) : (∀ n ∈ ns, Small n) ∧ ns.length ≤ 2000001 := by
  unfold withR at h
  split at h
  · obtain ⟨a1, j1, h1, h⟩ := then_eq h
    cases h
    refine ⟨fun n hn => ?_, ?_⟩
    · rcases List.mem_cons.1 hn with rfl | hn
      · exact numR_in5 hT h1
      · exact numsR_in5 hT j1 n hn
    · have := numsR_len5 hl j1
      simp; omega
  · cases h
    exact ⟨nil_small, by simp⟩
theorem bodyR_fits {ts : List Tok} (hT : ∀ t ∈ ts, In64 t.num) (hl : ts.length ≤ 2000000) {i j : Nat} {x : Itm_k} (h : bodyR ts i = (some x, j)) : Fits x := by
  unfold bodyR at h
  split at h
  · unfold actorR at h
    obtain ⟨a1, j1, h1, h⟩ := then_eq h
    obtain ⟨a2, j2, h2, h⟩ := then_eq h
    obtain ⟨a3, j3, h3, h⟩ := then_eq h
    obtain ⟨a4, j4, h4, h⟩ := then_eq h
    cases h
    have := numsR_len5 hl j4
    exact ⟨noPlc_small, noPlc_small, numsR_in5 hT j4, by show (numsR ts j4).length ≤ _; omega⟩
  split at h
  · unfold edgeR at h
    obtain ⟨a1, j1, h1, h⟩ := then_eq h
    obtain ⟨a2, j2, h2, h⟩ := then_eq h
    obtain ⟨a3, j3, h3, h⟩ := then_eq h
    obtain ⟨a4, j4, h4, h⟩ := then_eq h
    obtain ⟨a5, j5, h5, h⟩ := then_eq h
    cases h
    obtain ⟨w1, w2⟩ := withR_in5 hT hl h5
    exact ⟨placeR_in5 hT h2, placeR_in5 hT h4, w1, by show a5.length ≤ _; omega⟩
  split at h
  · unfold inR at h
    obtain ⟨a1, j1, h1, h⟩ := then_eq h
    obtain ⟨a2, j2, h2, h⟩ := then_eq h
    obtain ⟨a3, j3, h3, h⟩ := then_eq h
    obtain ⟨a4, j4, h4, h⟩ := then_eq h
    cases h
    exact ⟨noPlc_small, placeR_in5 hT h4, nil_small, by simp⟩
  · unfold outR at h
    obtain ⟨a1, j1, h1, h⟩ := then_eq h
    obtain ⟨a2, j2, h2, h⟩ := then_eq h
    obtain ⟨a3, j3, h3, h⟩ := then_eq h
    obtain ⟨a4, j4, h4, h⟩ := then_eq h
    cases h
    exact ⟨placeR_in5 hT h2, noPlc_small, nil_small, by simp⟩
theorem itemsF_fits {ts : List Tok} (hT : ∀ t ∈ ts, In64 t.num) (hl : ts.length ≤ 2000000) : ∀ (n i j : Nat) (xs : List Itm_k), itemsF n ts i = (some xs, j) → ∀ x ∈ xs, Fits x
  | 0, i, j, xs, h => by cases h
  | n + 1, i, j, xs, h => by
    by_cases he : (nthT ts i).text = [125]
    · have e : itemsF (n + 1) ts i = (some [], i) := by
        show (if _ then _ else _) = _
        rw [if_pos he]
      rw [e] at h
      cases h
      intro x hx; cases hx
    · rw [itemsF_step he] at h
      obtain ⟨a1, j1, h1, h⟩ := then_eq h
      obtain ⟨a2, j2, h2, h⟩ := then_eq h
      cases h
      unfold itemR at h1
      obtain ⟨b1, k1, g1, h1⟩ := then_eq h1
      obtain ⟨b2, k2, g2, h1⟩ := then_eq h1
      cases h1
      intro x hx
      rcases List.mem_cons.1 hx with rfl | hx
      · exact bodyR_fits hT hl g1
      · exact itemsF_fits hT hl n _ _ _ h2 x hx
theorem sketchR_fits {ts : List Tok} (hT : ∀ t ∈ ts, In64 t.num) (hl : ts.length ≤ 2000000) {s : Skt_k} {j : Nat} (h : sketchR ts = (some s, j)) : ∀ x ∈ s.items, Fits x := by
  unfold sketchR at h
  obtain ⟨a1, j1, h1, h⟩ := then_eq h
  obtain ⟨a2, j2, h2, h⟩ := then_eq h
  obtain ⟨a3, j3, h3, h⟩ := then_eq h
  obtain ⟨a4, j4, h4, h⟩ := then_eq h
  obtain ⟨a5, j5, h5, h⟩ := then_eq h
  split at h
  · cases h
    exact itemsF_fits hT hl _ _ _ _ h4
  · cases h
theorem fits_in64 {v : Int} (h : fits8 v = true) : In64 v := by
  unfold fits8 at h
  rw [Bool.and_eq_true, decide_eq_true_iff, decide_eq_true_iff] at h
  exact h
theorem zero_in64 : In64 0 := ⟨by decide, by decide⟩
theorem numO_in64 {neg : Bool} {ds : List UInt8} {v : Int} (h : numO neg ds = some v) : In64 v := by
  unfold numO at h
  split at h
  · rename_i hc
    cases h
    rw [Bool.and_eq_true] at hc
    exact fits_in64 hc.2
  · cases h
theorem tok_in64 (l : List UInt8) : In64 (tokO l).tok.num := by
  unfold tokO
  split
  · unfold wordO
    split
    · exact zero_in64
    · exact zero_in64
  split
  · unfold numberO
    simp only
    cases h : numO (decide (by8 l 0 = 45)) _ with
    | none => exact zero_in64
    | some v => exact numO_in64 h
  split
  · exact zero_in64
  split
  · exact zero_in64
  · exact zero_in64
theorem all_in64 : ∀ (n p : Nat) (x : List UInt8), x.length ≤ n → ∀ t ∈ (allL p x).toks, In64 t.num
  | n, p, x, hn => by
    by_cases h1 : x.drop (skipN false x) = []
    · rw [allL_end h1]
      intro t ht
      have e : t = ⟨0, [], 0, ((p + skipN false x : Nat) : Int)⟩ := by simpa using ht
      rw [e]
      exact zero_in64
    · by_cases h2 : (tokO (x.drop (skipN false x))).err = 0
      · obtain ⟨h3, h4, -⟩ := tok_some h2
        rw [List.length_drop] at h4
        rw [allL_tok h1 h2]
        unfold Got.cons
        match n, hn with
        | 0, hn => omega
        | n + 1, hn =>
          have ih := all_in64 n (p + skipN false x + (tokO (x.drop (skipN false x))).n) (x.drop (skipN false x + (tokO (x.drop (skipN false x))).n)) (by rw [List.length_drop]; omega)
          split
          · intro t ht
            rcases List.mem_cons.1 ht with rfl | ht
            · exact tok_in64 _
            · exact ih t ht
          · exact ih
      · rw [allL_err h1 h2]
        intro t ht
        cases ht
theorem text_in64 (l : List UInt8) : ∀ t ∈ (textG l).toks, In64 t.num := by
  unfold textG
  split
  · intro t ht; cases ht
  · exact all_in64 l.length 0 l (Nat.le_refl _)
/-- What is read of a text is printed by print_any's leave. -/
theorem text_fits {l : List UInt8} {s : Skt_k} {j : Nat} (h : sketchR (textG l).toks = (some s, j)) : ∀ x ∈ s.items, Fits x := sketchR_fits (text_in64 l) (text_len5 l) h
def formX (nm : List UInt8) (xs : List Itm_k) : List UInt8 := headS nm ++ xs.flatMap itemT ++ [125, 10]
def printX (nm : List UInt8) (xs : List Itm_k) : List UInt8 × Int :=
  if (xs.all rightX && nameB nm) = true then (if 1048576 < (formX nm xs).length then ([], 2) else (formX nm xs, 0)) else ([], 1)
theorem form_items (nm : List UInt8) (L : List (Itm_k × Value)) : formT nm L = formX nm (L.map Prod.fst) := by
  unfold formT formX itemsT
  rw [List.flatMap_map]
theorem print_items (nm : List UInt8) (L : List (Itm_k × Value)) : printO nm L = printX nm (L.map Prod.fst) := by
  unfold printO printX
  rw [form_items]
  have : rightL L = (L.map Prod.fst).all rightX := by
    unfold rightL
    rw [List.all_map]; rfl
  rw [this]
end Go.Proofs.YtolpelfdhcccnaaGreatDoor
namespace Go.Proofs.YtolpelfdhcccnaaGreatDoor
open Go.RowKit
/-! ### A sketch's pieces -/
def wdT (x : List UInt8) : Tok := ⟨1, x, 0, 0⟩
def mrT (x : List UInt8) : Tok := ⟨3, x, 0, 0⟩
def nbT (n : Int) : Tok := ⟨2, [], n, 0⟩
/-! ### The pieces may stand so -/
structure FitsX (x : Itm_k) : Prop where
  frm : fits8 x.frm.port = true
  to : fits8 x.to.port = true
  nums : ∀ n ∈ x.nums, fits8 n = true
/-! ### The pieces' tokens are read as the same -/
def numsU (ns : List Int) : List Tok := ns.map nbT
def placeU (p : Plc_k) : List Tok := [wdT p.name, mrT [46], nbT p.port]
def headU (x : Itm_k) : List Tok :=
  if x.kind = 1 then [wdT [97, 99, 116, 111, 114], wdT x.name, mrT [61], wdT x.tag]
  else if x.kind = 2 then wdT [101, 100, 103, 101] :: (placeU x.frm ++ mrT [45, 62] :: placeU x.to)
  else if x.kind = 3 then wdT [105, 110] :: wdT x.name :: mrT [45, 62] :: placeU x.to
  else wdT [111, 117, 116] :: (placeU x.frm ++ [mrT [45, 62], wdT x.name])
def withU (x : Itm_k) : List Tok := if x.kind = 2 ∧ x.nums ≠ [] then [wdT [119, 105, 116, 104]] else []
def itemU (x : Itm_k) : List Tok := headU x ++ (withU x ++ (numsU x.nums ++ [mrT [59]]))
def formU (nm : List UInt8) (xs : List Itm_k) : List Tok := wdT [103, 114, 97, 112, 104] :: wdT nm :: mrT [123] :: (xs.flatMap itemU ++ [mrT [125]])
theorem itemU_pos (x : Itm_k) : 0 < (itemU x).length := by
  unfold itemU
  simp only [List.length_append, List.length_cons]
  omega
theorem items_len : ∀ xs : List Itm_k, xs.length ≤ (xs.flatMap itemU).length
  | [] => Nat.le_refl _
  | x :: r => by
    rw [List.flatMap_cons, List.length_append, List.length_cons]
    have := items_len r; have := itemU_pos x; omega
/-! ### The tokens that were read are those that are written -/
def Fine (ts : List Tok) : Prop := ∀ k, (rightB (nthT ts k) = true ∧ fits8 (nthT ts k).num = true) ∨ ((nthT ts k).sort = 0 ∧ (nthT ts k).text = [])
def took (ts : List Tok) (i j : Nat) (us : List Tok) : Prop := (ts.drop i).map bareT = us ++ (ts.drop j).map bareT
theorem took.trans {ts : List Tok} {i j k : Nat} {a b : List Tok} (h1 : took ts i j a) (h2 : took ts j k b) : took ts i k (a ++ b) := by
  unfold took at *
  rw [h1, h2, List.append_assoc]
theorem took_nil (ts : List Tok) (i : Nat) : took ts i i [] := rfl
theorem took_one {ts : List Tok} {i : Nat} (h : nthT ts i ≠ noTok) : took ts i (i + 1) [bareT (nthT ts i)] := by
  unfold took
  have hi : i < ts.length := by
    rcases Nat.lt_or_ge i ts.length with h1 | h1
    · exact h1
    · exact absurd (by unfold nthT; rw [List.getD_eq_getElem?_getD, List.getElem?_eq_none h1]; rfl) h
  rw [List.drop_eq_getElem_cons hi]
  have e : nthT ts i = ts[i] := by unfold nthT; rw [List.getD_eq_getElem?_getD, List.getElem?_eq_getElem hi]; rfl
  rw [e]; rfl
theorem right_cases {t : Tok} (h : rightB t = true) : (t.sort = 1 ∧ t.num = 0 ∧ nameB t.text = true) ∨ (t.sort = 2 ∧ t.text = []) ∨ (t.sort = 3 ∧ t.num = 0 ∧ markT t.text = true) := by
  unfold rightB at h
  split at h
  · rename_i h1
    rw [Bool.and_eq_true, decide_eq_true_iff] at h
    exact .inl ⟨h1, h⟩
  split at h
  · rename_i h1
    rw [decide_eq_true_iff] at h
    exact .inr (.inl ⟨h1, h⟩)
  split at h
  · rename_i h1
    rw [Bool.and_eq_true, decide_eq_true_iff] at h
    exact .inr (.inr ⟨h1, h⟩)
  · cases h
theorem took_word {ts : List Tok} (hF : Fine ts) {x : List UInt8} {i j : Nat} {u : Unit} (hx : markT x = false) (hn : x ≠ []) (h : textR ts x i = (some u, j)) : took ts i j [wdT x] ∧ j = i + 1 := by
  have hj := textR_eq h
  have ht : (nthT ts i).text = x := by
    unfold textR at h
    split at h
    · assumption
    · cases h
  subst hj
  refine ⟨?_, rfl⟩
  have h1 := took_one (ts := ts) (i := i) (fun e => hn (by rw [← ht, e]; rfl))
  have h2 : bareT (nthT ts i) = wdT x := by
    rcases hF i with ⟨h3, -⟩ | ⟨-, h3⟩
    · rcases right_cases h3 with ⟨a, b, c⟩ | ⟨a, b⟩ | ⟨a, b, c⟩
      · unfold bareT wdT; rw [a, b, ht]
      · rw [ht] at b; exact absurd b hn
      · rw [ht, hx] at c; cases c
    · rw [ht] at h3; exact absurd h3 hn
  rw [h2] at h1
  exact h1
theorem took_mark {ts : List Tok} (hF : Fine ts) {x : List UInt8} {i j : Nat} {u : Unit} (hx : letB (by8 x 0) = false) (hn : x ≠ []) (h : textR ts x i = (some u, j)) : took ts i j [mrT x] ∧ j = i + 1 := by
  have hj := textR_eq h
  have ht : (nthT ts i).text = x := by
    unfold textR at h
    split at h
    · assumption
    · cases h
  subst hj
  refine ⟨?_, rfl⟩
  have h1 := took_one (ts := ts) (i := i) (fun e => hn (by rw [← ht, e]; rfl))
  have h2 : bareT (nthT ts i) = mrT x := by
    rcases hF i with ⟨h3, -⟩ | ⟨-, h3⟩
    · rcases right_cases h3 with ⟨a, b, c⟩ | ⟨a, b⟩ | ⟨a, b, c⟩
      · rw [ht] at c
        unfold nameB at c
        rw [hx] at c
        simp at c
      · rw [ht] at b; exact absurd b hn
      · unfold bareT mrT; rw [a, b, ht]
    · rw [ht] at h3; exact absurd h3 hn
  rw [h2] at h1
  exact h1
theorem took_name {ts : List Tok} (hF : Fine ts) {n : List UInt8} {i j : Nat} (h : nameR ts i = (some n, j)) : took ts i j [wdT n] ∧ nameB n = true := by
  have hj := nameR_eq h
  have ht : (nthT ts i).sort = 1 ∧ (nthT ts i).text = n := by
    unfold nameR at h
    split at h
    · rename_i h1
      injection h with h2 h3
      exact ⟨h1, Option.some.inj h2⟩
    · cases h
  subst hj
  have h1 := took_one (ts := ts) (i := i) (fun e => by rw [e] at ht; exact absurd ht.1 (by decide))
  rcases hF i with ⟨h3, -⟩ | ⟨h3, -⟩
  · rcases right_cases h3 with ⟨a, b, c⟩ | ⟨a, b⟩ | ⟨a, b, c⟩
    · have h2 : bareT (nthT ts i) = wdT n := by unfold bareT wdT; rw [a, b, ht.2]
      rw [h2] at h1
      exact ⟨h1, by rw [← ht.2]; exact c⟩
    · omega
    · omega
  · omega
theorem num_tok {ts : List Tok} (hF : Fine ts) {i : Nat} (h : (nthT ts i).sort = 2) : took ts i (i + 1) [nbT (nthT ts i).num] ∧ fits8 (nthT ts i).num = true := by
  have h1 := took_one (ts := ts) (i := i) (fun e => by rw [e] at h; exact absurd h (by decide))
  rcases hF i with ⟨h3, h4⟩ | ⟨h3, -⟩
  · rcases right_cases h3 with ⟨a, b, c⟩ | ⟨a, b⟩ | ⟨a, b, c⟩
    · omega
    · have h2 : bareT (nthT ts i) = nbT (nthT ts i).num := by unfold bareT nbT; rw [a, b]
      rw [h2] at h1
      exact ⟨h1, h4⟩
    · omega
  · omega
theorem took_num {ts : List Tok} (hF : Fine ts) {n : Int} {i j : Nat} (h : numR ts i = (some n, j)) : took ts i j [nbT n] ∧ fits8 n = true := by
  have hj := numR_eq h
  have ht : (nthT ts i).sort = 2 ∧ (nthT ts i).num = n := by
    unfold numR at h
    split at h
    · rename_i h1
      injection h with h2 h3
      exact ⟨h1, Option.some.inj h2⟩
    · cases h
  subst hj
  have := num_tok hF ht.1
  rw [ht.2] at this
  exact this
theorem took_nums {ts : List Tok} (hF : Fine ts) : ∀ (n i : Nat), ts.length - i ≤ n → took ts i (i + (numsR ts i).length) (numsU (numsR ts i)) ∧ ∀ x ∈ numsR ts i, fits8 x = true
  | n, i, hn => by
    by_cases h2 : (nthT ts i).sort = 2
    · have hi : i < ts.length := by
        rcases Nat.lt_or_ge i ts.length with h1 | h1
        · exact h1
        · have : nthT ts i = noTok := by unfold nthT; rw [List.getD_eq_getElem?_getD, List.getElem?_eq_none h1]; rfl
          rw [this] at h2; exact absurd h2 (by decide)
      match n, hn with
      | 0, hn => omega
      | n + 1, hn =>
        obtain ⟨a, b⟩ := num_tok hF h2
        obtain ⟨c, d⟩ := took_nums hF n (i + 1) (by omega)
        rw [nums_step hi h2]
        refine ⟨?_, fun x hx => ?_⟩
        · have := a.trans c
          rw [List.length_cons, show i + ((numsR ts (i + 1)).length + 1) = i + 1 + (numsR ts (i + 1)).length by omega]
          exact this
        · rcases List.mem_cons.1 hx with rfl | hx
          · exact b
          · exact d x hx
    · rw [nums_stop h2]
      exact ⟨took_nil ts i, fun x hx => by cases hx⟩
theorem took_place {ts : List Tok} (hF : Fine ts) {p : Plc_k} {i j : Nat} (h : placeR ts i = (some p, j)) : took ts i j (placeU p) ∧ nameB p.name = true ∧ fits8 p.port = true := by
  unfold placeR at h
  obtain ⟨n, j1, h1, h⟩ := then_eq h
  obtain ⟨u, j2, h2, h⟩ := then_eq h
  obtain ⟨q, j3, h3, h⟩ := then_eq h
  obtain ⟨a, b⟩ := took_name hF h1
  obtain ⟨c, -⟩ := took_mark hF rfl (by decide) h2
  obtain ⟨d, e⟩ := took_num hF h3
  injection h with h4 h5
  have h4 := Option.some.inj h4
  subst h4
  subst h5
  exact ⟨a.trans (c.trans d), b, e⟩
theorem took_with {ts : List Tok} (hF : Fine ts) {ns : List Int} {i j : Nat} (h : withR ts i = (some ns, j)) : took ts i j ((if ns ≠ [] then [wdT [119, 105, 116, 104]] else []) ++ numsU ns) ∧ ∀ x ∈ ns, fits8 x = true := by
  unfold withR at h
  split at h
  · rename_i h0
    obtain ⟨x, j1, h1, h⟩ := then_eq h
    have hw : textR ts [119, 105, 116, 104] i = (some (), i + 1) := by unfold textR; rw [if_pos h0]
    obtain ⟨a, -⟩ := took_word hF rfl (by decide) hw
    obtain ⟨b, c⟩ := took_num hF h1
    obtain ⟨d, e⟩ := took_nums hF (ts.length - j1) j1 (Nat.le_refl _)
    injection h with h2 h3
    have h2 := Option.some.inj h2
    subst h2
    subst h3
    refine ⟨?_, fun y hy => ?_⟩
    · rw [if_pos (List.cons_ne_nil _ _)]
      exact a.trans (b.trans d)
    · rcases List.mem_cons.1 hy with rfl | hy
      · exact c
      · exact e y hy
  · injection h with h2 h3
    have h2 := Option.some.inj h2
    subst h2
    subst h3
    exact ⟨took_nil ts i, fun x hx => by cases hx⟩
theorem abs_no : absB noPlc_k = true := rfl
theorem took_body {ts : List Tok} (hF : Fine ts) {x : Itm_k} {i j : Nat} (h : bodyR ts i = (some x, j)) : took ts i j (headU x ++ (withU x ++ numsU x.nums)) ∧ rightX x = true ∧ FitsX x := by
  unfold bodyR at h
  split at h
  · unfold actorR at h
    obtain ⟨u, j1, h1, h⟩ := then_eq h
    obtain ⟨n, j2, h2, h⟩ := then_eq h
    obtain ⟨u2, j3, h3, h⟩ := then_eq h
    obtain ⟨t, j4, h4, h⟩ := then_eq h
    obtain ⟨a1, -⟩ := took_word hF rfl (by decide) h1
    obtain ⟨a2, b2⟩ := took_name hF h2
    obtain ⟨a3, -⟩ := took_mark hF rfl (by decide) h3
    obtain ⟨a4, b4⟩ := took_name hF h4
    obtain ⟨a5, b5⟩ := took_nums hF (ts.length - j4) j4 (Nat.le_refl _)
    injection h with h6 h7
    have h6 := Option.some.inj h6
    subst h6
    subst h7
    refine ⟨a1.trans (a2.trans (a3.trans (a4.trans a5))), ?_, ⟨rfl, rfl, b5⟩⟩
    unfold rightX
    simp only [if_true, b2, b4, abs_no, Bool.and_self]
  split at h
  · unfold edgeR at h
    obtain ⟨u, j1, h1, h⟩ := then_eq h
    obtain ⟨f, j2, h2, h⟩ := then_eq h
    obtain ⟨u2, j3, h3, h⟩ := then_eq h
    obtain ⟨t, j4, h4, h⟩ := then_eq h
    obtain ⟨ns, j5, h5, h⟩ := then_eq h
    obtain ⟨a1, -⟩ := took_word hF rfl (by decide) h1
    obtain ⟨a2, b2, c2⟩ := took_place hF h2
    obtain ⟨a3, -⟩ := took_mark hF rfl (by decide) h3
    obtain ⟨a4, b4, c4⟩ := took_place hF h4
    obtain ⟨a5, b5⟩ := took_with hF h5
    injection h with h6 h7
    have h6 := Option.some.inj h6
    subst h6
    subst h7
    refine ⟨?_, ?_, ⟨c2, c4, b5⟩⟩
    · have := a1.trans (a2.trans (a3.trans (a4.trans a5)))
      unfold headU withU
      simp only [show ¬ ((2 : Int) = 1) by decide, if_false, if_true, true_and]
      simpa [List.append_assoc] using this
    · unfold rightX
      simp [b2, b4]
  split at h
  · unfold inR at h
    obtain ⟨u, j1, h1, h⟩ := then_eq h
    obtain ⟨n, j2, h2, h⟩ := then_eq h
    obtain ⟨u2, j3, h3, h⟩ := then_eq h
    obtain ⟨t, j4, h4, h⟩ := then_eq h
    obtain ⟨a1, -⟩ := took_word hF rfl (by decide) h1
    obtain ⟨a2, b2⟩ := took_name hF h2
    obtain ⟨a3, -⟩ := took_mark hF rfl (by decide) h3
    obtain ⟨a4, b4, c4⟩ := took_place hF h4
    injection h with h6 h7
    have h6 := Option.some.inj h6
    subst h6
    subst h7
    refine ⟨?_, ?_, ⟨rfl, c4, fun x hx => by cases hx⟩⟩
    · have := a1.trans (a2.trans (a3.trans a4))
      unfold headU withU
      simp only [show ¬ ((3 : Int) = 1) by decide, show ¬ ((3 : Int) = 2) by decide, if_false, if_true, false_and]
      simpa [numsU] using this
    · unfold rightX
      simp [b2, b4, bareB, abs_no]
  · unfold outR at h
    obtain ⟨u, j1, h1, h⟩ := then_eq h
    obtain ⟨f, j2, h2, h⟩ := then_eq h
    obtain ⟨u2, j3, h3, h⟩ := then_eq h
    obtain ⟨n, j4, h4, h⟩ := then_eq h
    obtain ⟨a1, -⟩ := took_word hF rfl (by decide) h1
    obtain ⟨a2, b2, c2⟩ := took_place hF h2
    obtain ⟨a3, -⟩ := took_mark hF rfl (by decide) h3
    obtain ⟨a4, b4⟩ := took_name hF h4
    injection h with h6 h7
    have h6 := Option.some.inj h6
    subst h6
    subst h7
    refine ⟨?_, ?_, ⟨c2, rfl, fun x hx => by cases hx⟩⟩
    · have := a1.trans (a2.trans (a3.trans a4))
      unfold headU withU
      simp only [show ¬ ((4 : Int) = 1) by decide, show ¬ ((4 : Int) = 2) by decide, show ¬ ((4 : Int) = 3) by decide, if_false, false_and]
      simpa [numsU] using this
    · unfold rightX
      simp [b2, b4, bareB, abs_no]
theorem took_item {ts : List Tok} (hF : Fine ts) {x : Itm_k} {i j : Nat} (h : itemR ts i = (some x, j)) : took ts i j (itemU x) ∧ rightX x = true ∧ FitsX x := by
  unfold itemR at h
  obtain ⟨y, j1, h1, h⟩ := then_eq h
  obtain ⟨u, j2, h2, h⟩ := then_eq h
  obtain ⟨a1, b1, c1⟩ := took_body hF h1
  obtain ⟨a2, -⟩ := took_mark hF rfl (by decide) h2
  injection h with h6 h7
  have h6 := Option.some.inj h6
  subst h6
  subst h7
  refine ⟨?_, b1, c1⟩
  have := a1.trans a2
  unfold itemU
  simpa [List.append_assoc] using this
theorem took_items {ts : List Tok} (hF : Fine ts) : ∀ (n i j : Nat) (xs : List Itm_k), itemsF n ts i = (some xs, j) → took ts i j (xs.flatMap itemU) ∧ ∀ x ∈ xs, rightX x = true ∧ FitsX x
  | 0, i, j, xs, h => by unfold itemsF at h; cases h
  | n + 1, i, j, xs, h => by
    unfold itemsF at h
    split at h
    · injection h with h6 h7
      have h6 := Option.some.inj h6
      subst h6
      subst h7
      exact ⟨took_nil ts i, fun x hx => by cases hx⟩
    · obtain ⟨x, j1, h1, h⟩ := then_eq h
      obtain ⟨ys, j2, h2, h⟩ := then_eq h
      obtain ⟨a1, b1⟩ := took_item hF h1
      obtain ⟨a2, b2⟩ := took_items hF n j1 j2 ys h2
      injection h with h6 h7
      have h6 := Option.some.inj h6
      subst h6
      subst h7
      refine ⟨by rw [List.flatMap_cons]; exact a1.trans a2, fun y hy => ?_⟩
      rcases List.mem_cons.1 hy with rfl | hy
      · exact b1
      · exact b2 y hy
/-- What is read is right, and its tokens are those of its one form. -/
theorem took_sketch {ts : List Tok} (hF : Fine ts) {s : Skt_k} {j : Nat} (h : sketchR ts = (some s, j)) : (∃ r, ts.map bareT = formU s.name s.items ++ r) ∧ nameB s.name = true ∧ ∀ x ∈ s.items, rightX x = true ∧ FitsX x := by
  unfold sketchR at h
  obtain ⟨u, j1, h1, h⟩ := then_eq h
  obtain ⟨n, j2, h2, h⟩ := then_eq h
  obtain ⟨u2, j3, h3, h⟩ := then_eq h
  obtain ⟨xs, j4, h4, h⟩ := then_eq h
  obtain ⟨u3, j5, h5, h⟩ := then_eq h
  obtain ⟨a1, -⟩ := took_word hF rfl (by decide) h1
  obtain ⟨a2, b2⟩ := took_name hF h2
  obtain ⟨a3, -⟩ := took_mark hF rfl (by decide) h3
  obtain ⟨a4, b4⟩ := took_items hF _ _ _ _ h4
  obtain ⟨a5, -⟩ := took_mark hF rfl (by decide) h5
  split at h
  · injection h with h6 h7
    have h6 := Option.some.inj h6
    subst h6
    refine ⟨⟨(ts.drop j5).map bareT, ?_⟩, b2, b4⟩
    have := a1.trans (a2.trans (a3.trans (a4.trans a5)))
    unfold took at this
    rw [List.drop_zero] at this
    exact this
  · cases h
/-! ### How long it is -/
def sumS (ts : List Tok) : Nat := (ts.map fun t => (spelt t).length).sum
theorem sumS_app (a b : List Tok) : sumS (a ++ b) = sumS a + sumS b := by unfold sumS; rw [List.map_append, List.sum_append_nat]
theorem sumS_cons (t : Tok) (r : List Tok) : sumS (t :: r) = (spelt t).length + sumS r := by unfold sumS; rw [List.map_cons, List.sum_cons]
theorem sumS_bare : ∀ ts : List Tok, sumS (ts.map bareT) = sumS ts
  | [] => rfl
  | t :: r => by rw [List.map_cons, sumS_cons, sumS_cons, sumS_bare r]; rfl
theorem int_pos (n : Int) : 0 < (intS n).length := by
  unfold intS
  split
  · decide
  · rename_i h
    have hn : 0 < n.natAbs := by omega
    obtain ⟨-, -, a3⟩ := natS_facts n.natAbs n.natAbs (Nat.le_refl _)
    have := (a3 hn).1
    rw [List.length_append]
    have h2 : 0 < (natS n.natAbs).length := List.length_pos_iff.2 this
    omega
theorem spelt_wd (x : List UInt8) : (spelt (wdT x)).length = x.length := rfl
theorem spelt_mr (x : List UInt8) : (spelt (mrT x)).length = x.length := rfl
theorem spelt_nb (n : Int) : (spelt (nbT n)).length = (intS n).length := rfl
theorem nums_short : ∀ ns : List Int, (numsT ns).length ≤ 4 * sumS (numsU ns)
  | [] => Nat.zero_le _
  | n :: r => by
    have ih := nums_short r
    have := int_pos n
    show (numT n ++ numsT r).length ≤ 4 * sumS (nbT n :: numsU r)
    rw [sumS_cons, spelt_nb, List.length_append]
    unfold numT
    rw [List.length_cons, itoa_intS]
    omega
theorem place_sum (p : Plc_k) : sumS (placeU p) = p.name.length + (1 + (intS p.port).length) := by
  unfold placeU
  rw [sumS_cons, sumS_cons, sumS_cons, spelt_wd, spelt_mr, spelt_nb]
  rfl
theorem place_lenT (p : Plc_k) : (placeT p).length = p.name.length + 1 + (intS p.port).length := by
  unfold placeT
  rw [itoa_intS]; simp; omega
theorem item_short (x : Itm_k) : (itemT x).length ≤ 4 * sumS (itemU x) := by
  have hn := nums_short x.nums
  unfold itemT itemU
  rw [sumS_app, sumS_app, sumS_app, List.length_append, List.length_append, List.length_append]
  have hw : (withT x).length ≤ 4 * sumS (withU x) := by
    unfold withT withU
    split
    · decide
    · decide
  have hh : (headT x).length + 2 ≤ 4 * (sumS (headU x) + 1) := by
    have hf := place_lenT x.frm; have ht := place_lenT x.to; have qf := place_sum x.frm; have qt := place_sum x.to
    unfold headT headU
    split
    · simp only [sumS_cons, spelt_wd, spelt_mr, List.length_append, List.length_cons, List.length_nil]
      omega
    split
    · simp only [sumS_cons, sumS_app, spelt_wd, spelt_mr, List.length_append, List.length_cons, List.length_nil, hf, ht, qf, qt]
      omega
    split
    · simp only [sumS_cons, spelt_wd, spelt_mr, List.length_append, List.length_cons, List.length_nil, ht, qt]
      omega
    · simp only [sumS_cons, sumS_app, spelt_wd, spelt_mr, List.length_append, List.length_cons, List.length_nil, hf, qf]
      omega
  have he : sumS [mrT [59]] = 1 := rfl
  rw [he]
  show _ + _ + _ + 2 ≤ _
  omega
theorem items_short : ∀ xs : List Itm_k, (xs.flatMap itemT).length ≤ 4 * sumS (xs.flatMap itemU)
  | [] => Nat.zero_le _
  | x :: r => by
    rw [List.flatMap_cons, List.flatMap_cons, sumS_app, List.length_append]
    have := items_short r; have := item_short x; omega
theorem form_short (nm : List UInt8) (xs : List Itm_k) : (headS nm ++ xs.flatMap itemT ++ [125, 10]).length ≤ 4 * sumS (formU nm xs) := by
  have h := items_short xs
  unfold headS formU
  simp only [sumS_cons, sumS_app, spelt_wd, spelt_mr, List.length_append, List.length_cons, List.length_nil]
  omega
/-! ### Tokens as they lie in a text -/
def Laid (l : List UInt8) : Nat → List Tok → Prop
  | _, [] => False
  | p, t :: r => ∃ q : Nat, t.place = (q : Int) ∧ p ≤ q ∧ q + (spelt t).length ≤ l.length ∧ (l.drop q).take (spelt t).length = spelt t ∧ fits8 t.num = true ∧ ((t.sort = 0 ∧ r = [] ∧ q + (spelt t).length = l.length) ∨ (t.sort ≠ 0 ∧ rightB t = true ∧ Laid l (q + (spelt t).length) r))
theorem laid_of {l : List UInt8} : ∀ (n p : Nat) (ts : List Tok), ts.length ≤ n → p ≤ l.length → allL p (l.drop p) = ⟨ts, 0, 0⟩ → Laid l p ts
  | 0, p, ts, hn, hp, h => by
    obtain ⟨t, rest, q, s, rfl, st⟩ := place_step_k hp h
    simp at hn
  | n + 1, p, ts, hn, hp, h => by
    obtain ⟨t, rest, q, s, rfl, st⟩ := place_step_k hp h
    have es := st.spelt
    have r1 := st.room
    have r2 := st.stands
    subst es
    refine ⟨q, st.place, st.le, r1, r2, st.fits, ?_⟩
    rcases st.ways with ⟨a, b, c⟩ | ⟨a, b, c, d⟩
    · exact .inl ⟨a, b, c⟩
    · exact .inr ⟨a, b, laid_of n _ rest (by simp at hn; omega) r1 d⟩
theorem laid_sum {l : List UInt8} : ∀ (ts : List Tok) (p : Nat), Laid l p ts → p + sumS ts ≤ l.length
  | [], p, h => by cases h
  | t :: r, p, h => by
    obtain ⟨q, -, h2, h3, -, -, h6⟩ := h
    rw [sumS_cons]
    rcases h6 with ⟨-, rfl, -⟩ | ⟨-, -, h7⟩
    · show p + ((spelt t).length + 0) ≤ _; omega
    · have := laid_sum r _ h7
      omega
theorem laid_fine {l : List UInt8} : ∀ (ts : List Tok) (p : Nat), Laid l p ts → Ended ts → Fine ts
  | [], p, h, _ => by cases h
  | t :: r, p, h, hE => by
    obtain ⟨q, -, h2, h3, -, h5, h6⟩ := h
    rcases h6 with ⟨a, rfl, -⟩ | ⟨a, b, h7⟩
    · intro k
      match k with
      | 0 => exact .inr ⟨a, hE.text⟩
      | k + 1 => exact .inr ⟨rfl, rfl⟩
    · have hr : r ≠ [] := by intro e; rw [e] at h7; cases h7
      have hE2 : Ended r := by
        have hp := hE.pos
        have h1 : 0 < r.length := List.length_pos_iff.2 hr
        have e : (t :: r).length - 1 = (r.length - 1) + 1 := by rw [List.length_cons]; omega
        refine ⟨h1, ?_, ?_⟩
        · have := hE.sort; rw [e] at this; exact this
        · have := hE.text; rw [e] at this; exact this
      have ih := laid_fine r _ h7 hE2
      intro k
      match k with
      | 0 => exact .inl ⟨b, h5⟩
      | k + 1 => exact ih k
theorem text_laid {l : List UInt8} (h : (textG l).err = 0) : l.length ≤ 1048576 ∧ Laid l 0 (textG l).toks := by
  by_cases hl : 1048576 < l.length
  · unfold textG at h
    rw [if_pos hl] at h
    cases h
  · have e : textG l = allL 0 l := by unfold textG; rw [if_neg hl]
    rw [e] at h ⊢
    refine ⟨by omega, laid_of _ 0 _ (Nat.le_refl _) (Nat.zero_le _) ?_⟩
    rw [List.drop_zero]
    have hz := allL_zero h
    generalize allL 0 l = G at *
    obtain ⟨ts, er, pl⟩ := G
    simp only at h hz
    subst h
    subst hz
    rfl
/-- What is read of a text: right, and printed in at most four times as many bytes. -/
theorem text_right {l : List UInt8} {s : Skt_k} {j : Nat} (h : (textG l).err = 0) (hs : sketchR (textG l).toks = (some s, j)) :
    nameB s.name = true ∧ (∀ x ∈ s.items, rightX x = true ∧ FitsX x) ∧ (headS s.name ++ s.items.flatMap itemT ++ [125, 10]).length ≤ 4 * l.length := by
  obtain ⟨hl, hL⟩ := text_laid h
  have hF := laid_fine _ _ hL (text_ended h)
  obtain ⟨⟨r, hr⟩, hn, hx⟩ := took_sketch hF hs
  refine ⟨hn, hx, ?_⟩
  have h1 := form_short s.name s.items
  have h2 := laid_sum _ _ hL
  have h3 := congrArg sumS hr
  rw [sumS_bare, sumS_app] at h3
  omega
end Go.Proofs.YtolpelfdhcccnaaGreatDoor
namespace Go.Proofs.YtolpelfdhcccnaaGreatDoor
open Go.ChangeShapes Go.WideShapes Go.ChangeAt Go.RowKit
theorem text_items {l : List UInt8} {s : Skt_k} {j : Nat} (h : (textG l).err = 0) (hs : sketchR (textG l).toks = (some s, j)) : s.items.length ≤ 2000000 := by
  obtain ⟨hl, hL⟩ := text_laid h
  obtain ⟨⟨r, hr⟩, -⟩ := took_sketch (laid_fine _ _ hL (text_ended h)) hs
  have h1 := congrArg List.length hr
  rw [List.length_map, List.length_append] at h1
  have h2 := items_len s.items
  have h3 : (s.items.flatMap itemU).length ≤ (formU s.name s.items).length := by
    unfold formU
    simp only [List.length_cons, List.length_append]
    omega
  have := text_len5 l
  omega
theorem Tab.on5 {w W : World} (h : Tab w.heap.size w) (hb : Below w.heap.size w W) : Tab W.heap.size W := fun w' h' => h w' (hb.trans (h'.mono hb.size))
theorem bodyR_few {ts : List Tok} (hT : ∀ t ∈ ts, In64 t.num) (hl : ts.length ≤ 2000000) {i j : Nat} {x : Itm_k} (h : bodyR ts i = (some x, j)) : x.nums.length ≤ 2000001 := by
  unfold bodyR at h
  split at h
  · unfold actorR at h
    obtain ⟨a1, j1, h1, h⟩ := then_eq h
    obtain ⟨a2, j2, h2, h⟩ := then_eq h
    obtain ⟨a3, j3, h3, h⟩ := then_eq h
    obtain ⟨a4, j4, h4, h⟩ := then_eq h
    cases h
    have := numsR_len5 hl j4
    show (numsR ts j4).length ≤ _; omega
  split at h
  · unfold edgeR at h
    obtain ⟨a1, j1, h1, h⟩ := then_eq h
    obtain ⟨a2, j2, h2, h⟩ := then_eq h
    obtain ⟨a3, j3, h3, h⟩ := then_eq h
    obtain ⟨a4, j4, h4, h⟩ := then_eq h
    obtain ⟨a5, j5, h5, h⟩ := then_eq h
    cases h
    obtain ⟨w1, w2⟩ := withR_in5 hT hl h5
    show a5.length ≤ _; omega
  split at h
  · unfold inR at h
    obtain ⟨a1, j1, h1, h⟩ := then_eq h
    obtain ⟨a2, j2, h2, h⟩ := then_eq h
    obtain ⟨a3, j3, h3, h⟩ := then_eq h
    obtain ⟨a4, j4, h4, h⟩ := then_eq h
    cases h
    simp
  · unfold outR at h
    obtain ⟨a1, j1, h1, h⟩ := then_eq h
    obtain ⟨a2, j2, h2, h⟩ := then_eq h
    obtain ⟨a3, j3, h3, h⟩ := then_eq h
    obtain ⟨a4, j4, h4, h⟩ := then_eq h
    cases h
    simp
theorem itemsF_few {ts : List Tok} (hT : ∀ t ∈ ts, In64 t.num) (hl : ts.length ≤ 2000000) : ∀ (n i j : Nat) (xs : List Itm_k), itemsF n ts i = (some xs, j) → ∀ x ∈ xs, x.nums.length ≤ 2000001
  | 0, i, j, xs, h => by cases h
  | n + 1, i, j, xs, h => by
    by_cases he : (nthT ts i).text = [125]
    · have e : itemsF (n + 1) ts i = (some [], i) := by
        show (if _ then _ else _) = _
        rw [if_pos he]
      rw [e] at h
      cases h
      intro x hx; cases hx
    · rw [itemsF_step he] at h
      obtain ⟨a1, j1, h1, h⟩ := then_eq h
      obtain ⟨a2, j2, h2, h⟩ := then_eq h
      cases h
      unfold itemR at h1
      obtain ⟨b1, k1, g1, h1⟩ := then_eq h1
      obtain ⟨b2, k2, g2, h1⟩ := then_eq h1
      cases h1
      intro x hx
      rcases List.mem_cons.1 hx with rfl | hx
      · exact bodyR_few hT hl g1
      · exact itemsF_few hT hl n _ _ _ h2 x hx
theorem sketchR_few {ts : List Tok} (hT : ∀ t ∈ ts, In64 t.num) (hl : ts.length ≤ 2000000) {s : Skt_k} {j : Nat} (h : sketchR ts = (some s, j)) : ∀ x ∈ s.items, x.nums.length ≤ 2000001 := by
  unfold sketchR at h
  obtain ⟨a1, j1, h1, h⟩ := then_eq h
  obtain ⟨a2, j2, h2, h⟩ := then_eq h
  obtain ⟨a3, j3, h3, h⟩ := then_eq h
  obtain ⟨a4, j4, h4, h⟩ := then_eq h
  obtain ⟨a5, j5, h5, h⟩ := then_eq h
  split at h
  · cases h
    exact itemsF_few hT hl _ _ _ _ h4
  · cases h
/-- What is read of a text: a name, items, an error and its place. -/
def outP (l : List UInt8) : List UInt8 × List Itm_k × Int × Int :=
  if (textG l).err ≠ 0 then ([], [], (textG l).err, (textG l).place)
  else match sketchR (textG l).toks with
    | (none, j) => ([], [], 50, (nthT (textG l).toks j).place)
    | (some s, _) => (s.name, s.items, 0, 0)
/-! ### Plain -/
/-- A word or a mark that can be told by its text alone. -/
def Key (s : Int) (x : List UInt8) : Prop := x ≠ [] ∧ ((s = 1 ∧ markT x = false) ∨ (s = 3 ∧ letB (by8 x 0) = false))
theorem Fine.key {ts : List Tok} (hF : Fine ts) {s : Int} {x : List UInt8} (hk : Key s x) {i : Nat} (h : (nthT ts i).text = x) : (nthT ts i).sort = s := by
  rcases hF i with ⟨h3, -⟩ | ⟨-, h3⟩
  · rcases right_cases h3 with ⟨a, b, c⟩ | ⟨a, b⟩ | ⟨a, b, c⟩
    · rcases hk.2 with ⟨e, -⟩ | ⟨-, e⟩
      · rw [a, e]
      · rw [h] at c
        unfold nameB at c
        rw [e] at c
        simp at c
    · rw [h] at b; exact absurd b hk.1
    · rcases hk.2 with ⟨-, e⟩ | ⟨e, -⟩
      · rw [h, e] at c; cases c
      · rw [a, e]
  · rw [h] at h3; exact absurd h3 hk.1
/-- What follows a state: read on if all was well so far. -/
def Follows {α : Type} (b : Bool) (i : Nat) (f : Nat → Rd α) (a : α) (b' : Bool) (i' : Nat) : Prop :=
  (b = true ∧ b' = true ∧ f i = (some a, i')) ∨ (b = true ∧ b' = false ∧ f i = (none, i')) ∨ (b = false ∧ b' = false ∧ i' = i)
theorem Follows.next {α β : Type} {b b1 b2 : Bool} {i i1 i2 : Nat} {f : Nat → Rd α} {g : α → Nat → Rd β} {a : α} {c : β} (h1 : Follows b i f a b1 i1) (h2 : Follows b1 i1 (g a) c b2 i2) : Follows b i (fun i => andThen (f i) g) c b2 i2 := by
  rcases h1 with ⟨hb, rfl, e⟩ | ⟨hb, rfl, e⟩ | ⟨hb, rfl, rfl⟩
  · rcases h2 with ⟨-, hb2, e2⟩ | ⟨-, hb2, e2⟩ | ⟨h, -, -⟩
    · exact Or.inl ⟨hb, hb2, by show andThen (f i) g = _; rw [e, then_some, e2]⟩
    · exact Or.inr (Or.inl ⟨hb, hb2, by show andThen (f i) g = _; rw [e, then_some, e2]⟩)
    · cases h
  · rcases h2 with ⟨h, -, -⟩ | ⟨h, -, -⟩ | ⟨-, hb2, rfl⟩
    · cases h
    · cases h
    · exact Or.inr (Or.inl ⟨hb, hb2, by show andThen (f i) g = _; rw [e, then_none]⟩)
  · rcases h2 with ⟨h, -, -⟩ | ⟨h, -, -⟩ | ⟨-, hb2, e2⟩
    · cases h
    · cases h
    · exact Or.inr (Or.inr ⟨hb, hb2, e2⟩)
theorem Follows.done {α β : Type} {b b1 : Bool} {i i1 : Nat} {f : Nat → Rd α} {a : α} (g : α → β) (h1 : Follows b i f a b1 i1) : Follows b i (fun i => andThen (f i) fun a j => (some (g a), j)) (g a) b1 i1 := by
  rcases h1 with ⟨hb, rfl, e⟩ | ⟨hb, rfl, e⟩ | ⟨hb, rfl, rfl⟩
  · exact Or.inl ⟨hb, rfl, by show andThen (f i) _ = _; rw [e, then_some]⟩
  · exact Or.inr (Or.inl ⟨hb, rfl, by show andThen (f i) _ = _; rw [e, then_none]⟩)
  · exact Or.inr (Or.inr ⟨hb, rfl, rfl⟩)
theorem Follows.of {α : Type} {b b1 : Bool} {i i1 : Nat} {f g : Nat → Rd α} {a : α} (h : Follows b i f a b1 i1) (e : f i = g i) : Follows b i g a b1 i1 := by
  unfold Follows at h ⊢
  rw [← e]
  exact h
/-! ### How the reader stands -/
structure Rdr (P : Nat) (v : Value) (ts : List Tok) (i : Nat) (ok : Bool) (w : World) : Prop where
  here : w.heap[P]? = some (.cells #[v, .int .i64 (i : Int), .bool ok] 108 (0, 0))
  row : ∃ g cap, v = .slice (some ⟨g, 0, none⟩) ts.length cap ∧ g ≠ P ∧ g < w.heap.size ∧ ∀ k, k < ts.length → Cell4 w g (k * 4) (nthT ts k)
theorem Rdr.c0 {P v ts i ok w} (h : Rdr P v ts i ok w) : w.cell? ⟨P, 0, none⟩ = some v := by simp [World.cell?, h.here]
theorem Rdr.c1 {P v ts i ok w} (h : Rdr P v ts i ok w) : w.cell? ⟨P, 1, none⟩ = some (.int .i64 (i : Int)) := by simp [World.cell?, h.here]
theorem Rdr.c2 {P v ts i ok w} (h : Rdr P v ts i ok w) : w.cell? ⟨P, 2, none⟩ = some (.bool ok) := by simp [World.cell?, h.here]
theorem Rdr.fz {P v ts i ok w} (h : Rdr P v ts i ok w) (k : Nat) : w.frozen? ⟨P, k, none⟩ = false := by simp [World.frozen?, h.here]
theorem Rdr.lt {P v ts i ok w} (h : Rdr P v ts i ok w) : P < w.heap.size := (Array.getElem?_eq_some_iff.1 h.here).1
theorem Rdr.moved {P v ts} {i j : Nat} {ok ok' : Bool} {w w'} (h : Rdr P v ts i ok w) (hg : w.grownBy w' (some P)) (hh : w'.heap[P]? = some (.cells #[v, .int .i64 (j : Int), .bool ok'] 108 (0, 0))) : Rdr P v ts j ok' w' := by
  refine ⟨hh, ?_⟩
  obtain ⟨g, cap, hv, hne, hlt, hc⟩ := h.row
  exact ⟨g, cap, hv, hne, Nat.lt_of_lt_of_le hlt hg.size, fun k hk => (hc k hk).block (hg.block g hlt (fun e => hne (Option.some.inj e)))⟩
theorem Rdr.below {P v ts i ok w w'} (h : Rdr P v ts i ok w) (hb : Below w.heap.size w w') : Rdr P v ts i ok w' := by
  refine ⟨(hb.block _ h.lt).trans h.here, ?_⟩
  obtain ⟨g, cap, hv, hne, hlt, hc⟩ := h.row
  exact ⟨g, cap, hv, hne, Nat.lt_of_lt_of_le hlt hb.size, fun k hk => (hc k hk).block (hb.block g hlt)⟩
theorem Rdr.alloc {P v ts i ok w} (h : Rdr P v ts i ok w) (o : Obj) : Rdr P v ts i ok (w.alloc o) := h.below ((Below.refl _ _).alloc (Nat.le_refl _) _)
/-- The reader has gone on, and nothing else is changed that was there. -/
structure RGo (P : Nat) (v : Value) (ts : List Tok) (j : Nat) (ok : Bool) (W w' : World) : Prop where
  par : Rdr P v ts j ok w'
  grown : W.grownBy w' (some P)
theorem RGo.trans {P v ts j k ok ok' W w1 w2} (h : RGo P v ts j ok W w1) (h2 : RGo P v ts k ok' w1 w2) : RGo P v ts k ok' W w2 := ⟨h2.par, Lib.grownBy_trans h.grown h2.grown⟩
theorem RGo.stay {P v ts i ok W w'} (h : Rdr P v ts i ok W) (hb : Below W.heap.size W w') : RGo P v ts i ok W w' := ⟨h.below hb, below_grows hb _⟩
theorem RGo.refl {P v ts i ok W} (h : Rdr P v ts i ok W) : RGo P v ts i ok W W := RGo.stay h (Below.refl _ _)
theorem RGo.later {P v ts j ok W w1 w2} (h : RGo P v ts j ok W w1) (hb : Below w1.heap.size w1 w2) : RGo P v ts j ok W w2 := h.trans (RGo.stay h.par hb)
theorem Rdr.setAt {P v ts i ok w} (h : Rdr P v ts i ok w) (j : Nat) : RGo P v ts j ok w (w.setCell ⟨P, 1, none⟩ (.int .i64 (j : Int))) := by
  have hg : w.grownBy (w.setCell ⟨P, 1, none⟩ (.int .i64 (j : Int))) (some P) :=
    ⟨rfl, rfl, rfl, by simp, fun k _ hk => Below.heap_setCell w _ _ k (fun e => hk (by rw [e]))⟩
  refine ⟨h.moved hg ?_, hg⟩
  rw [heap_setCell_same w P 1 _ _ _ h.here]
  rfl
theorem Rdr.setOk {P v ts i ok w} (h : Rdr P v ts i ok w) (b : Bool) : RGo P v ts i b w (w.setCell ⟨P, 2, none⟩ (.bool b)) := by
  have hg : w.grownBy (w.setCell ⟨P, 2, none⟩ (.bool b)) (some P) :=
    ⟨rfl, rfl, rfl, by simp, fun k _ hk => Below.heap_setCell w _ _ k (fun e => hk (by rw [e]))⟩
  refine ⟨h.moved hg ?_, hg⟩
  rw [heap_setCell_same w P 2 _ _ _ h.here]
  rfl
theorem Rdr.blk {P v ts i ok w} (h : Rdr P v ts i ok w) {n : Nat} (hn : w.heap.size ≤ n) : v.ownBlock ≠ some n ∧ P ≠ n := by
  obtain ⟨g, cap, rfl, -, hlt, -⟩ := h.row
  have := h.lt
  exact ⟨fun e => by have : g = n := Option.some.inj e; omega, by omega⟩
theorem Rdr.other {P v ts i ok w} (h : Rdr P v ts i ok w) {n k : Nat} (hn : v.ownBlock ≠ some n ∧ P ≠ n) (x : Value) : Rdr P v ts i ok (w.setCell ⟨n, k, none⟩ x) := by
  refine ⟨(Below.heap_setCell w _ _ P hn.2).trans h.here, ?_⟩
  obtain ⟨g, cap, rfl, hne, hlt, hc⟩ := h.row
  exact ⟨g, cap, rfl, hne, by rw [World.size_setCell]; exact hlt, fun k hk => (hc k hk).block (Below.heap_setCell w _ _ g (fun e => hn.1 (congrArg some e)))⟩
theorem RGo.put {P v ts j ok W w1} (h : RGo P v ts j ok W w1) {n k : Nat} (hn : v.ownBlock ≠ some n ∧ P ≠ n) (hs : W.heap.size ≤ n) (x : Value) : RGo P v ts j ok W (w1.setCell ⟨n, k, none⟩ x) := ⟨h.par.other hn x, grown_set h.grown hs⟩
theorem RGo.own {P v ts i j ok ok' W w1 w2} {row : Option Nat} (h : RGo P v ts j ok W w1) (h0 : Rdr P v ts i ok' W) (hg : w1.grownBy w2 row) (hr : ∀ k, row = some k → W.heap.size ≤ k) : RGo P v ts j ok W w2 := by
  have hP := h0.lt
  have ne : ∀ k, k < W.heap.size → some k ≠ row := fun k hk e => by have := hr k e.symm; omega
  have hs := h.grown.size
  refine ⟨⟨(hg.block P (by omega) (ne P hP)).trans h.par.here, ?_⟩, ?_⟩
  · obtain ⟨g, cap, rfl, -, hlt, -⟩ := h0.row
    obtain ⟨g', cap', he, hne, hlt', hc⟩ := h.par.row
    cases he
    exact ⟨g, cap, rfl, hne, Nat.lt_of_lt_of_le hlt' hg.size, fun k hk => (hc k hk).block (hg.block g hlt' (ne g hlt))⟩
  · exact ⟨hg.os.trans h.grown.os, hg.tape.trans h.grown.tape, hg.output.trans h.grown.output, Nat.le_trans h.grown.size hg.size, fun k hk hne => (hg.block k (by omega) (ne k hk)).trans (h.grown.block k hk hne)⟩
theorem drew_below (w : World) (n : Nat) : Below w.heap.size w (w.drewN n) := ⟨rfl, rfl, rfl, Nat.le_refl _, fun _ _ => rfl⟩
theorem dec_list (tx x : List UInt8) : (tx == x) = decide (tx = x) := by
  by_cases h : tx = x
  · simp [h]
  · rw [decide_eq_false h]; simpa using h
set_option maxRecDepth 100000 in
set_option maxHeartbeats 2000000 in
theorem ris_at (P : Nat) (v : Value) (ts : List Tok) (q : Nat) (ok : Bool) (W : World) (h : Rdr P v ts q ok W) (hi : q < ts.length) (hl : ts.length ≤ 2000000) (s : Int) (x : List UInt8) :
    Calls Tryz.prog 56 #[.pointer (some ⟨P, 0, none⟩), .int .u8 s, .string (str x)] W fun e w' => e = .returned (.bool (decide ((nthT ts q).sort = s) && decide ((nthT ts q).text = x))) ∧ Below W.heap.size W w' := by
  have hc0 := h.c0
  have hc1 := h.c1
  obtain ⟨g, cap, rfl, -, hgl, hc⟩ := h.row
  obtain ⟨a0, a1, a2, a3⟩ := hc q hi
  have hii : (q : Int) < (ts.length : Int) := by omega
  have hll : (ts.length : Int) ≤ 2000000 := by omega
  clear h hc a2 a3
  generalize nthT ts q = t at *
  obtain ⟨so, tx, nm, pl⟩ := t
  simp only at a0 a1 ⊢
  have e1 := str_list tx
  have e2 := str_list x
  have e3 := dec_list tx x
  generalize ts.length = N at *
  by_cases hs : so = s
  · subst hs
    have g1 : (so == so) = true := by simp
    have g2 : decide (so = so) = true := by simp
    rw [g2, Bool.true_and]
    go_enter Tryz.func56, Tryz.ntmps56
    go_wp2
    go_quiet (fail)
    go_wp2
    go_ret
    exact ⟨rfl, drew_below _ _⟩
  · have g1 : (so == s) = false := by simpa using hs
    have g2 : decide (so = s) = false := decide_eq_false hs
    rw [g2, Bool.false_and]
    go_enter Tryz.func56, Tryz.ntmps56
    go_wp2
    go_quiet (fail)
    go_wp2
    go_ret
    exact ⟨rfl, drew_below _ _⟩
theorem ris_key (P : Nat) (v : Value) (ts : List Tok) (q : Nat) (ok : Bool) (W : World) (h : Rdr P v ts q ok W) (hi : q < ts.length) (hl : ts.length ≤ 2000000) (hF : Fine ts) (s : Int) (x : List UInt8) (hk : Key s x) :
    Calls Tryz.prog 56 #[.pointer (some ⟨P, 0, none⟩), .int .u8 s, .string (str x)] W fun e w' => e = .returned (.bool (decide ((nthT ts q).text = x))) ∧ Below W.heap.size W w' := by
  have e : (decide ((nthT ts q).sort = s) && decide ((nthT ts q).text = x)) = decide ((nthT ts q).text = x) := by
    by_cases hx : (nthT ts q).text = x
    · rw [decide_eq_true hx, decide_eq_true (hF.key hk hx)]; rfl
    · rw [decide_eq_false hx, Bool.and_false]
  have := ris_at P v ts q ok W h hi hl s x
  rw [e] at this
  exact this
set_option maxRecDepth 100000 in
set_option maxHeartbeats 2000000 in
theorem must_yes (P : Nat) (v : Value) (ts : List Tok) (q : Nat) (W : World) (h : Rdr P v ts q true W) (hi : q < ts.length) (hl : ts.length ≤ 2000000) (hF : Fine ts) (s : Int) (x : List UInt8) (hk : Key s x) (hx : (nthT ts q).text = x) :
    Calls Tryz.prog 54 #[.pointer (some ⟨P, 0, none⟩), .int .u8 s, .string (str x)] W fun e w' => e = .returned (.tuple #[]) ∧ RGo P v ts (q + 1) true W w' := by
  have HI := hidden (ris_key P v ts q true W h hi hl hF s x hk)
  rw [decide_eq_true hx] at HI
  have H0 := hidden h
  have hc2 := h.c2
  have hqI : (q : Int) < 2000000 := by omega
  clear h hx
  go_enter Tryz.func54, Tryz.ntmps54
  go_wp2_with (go_at_call 56; (with_reducible refine HI.out.mono ?_); rintro e w1 ⟨rfl, hb⟩; have HG := hidden (RGo.stay H0.out hb); have k1 := HG.out.par.c1; have f1 := HG.out.par.fz 1; clear hb)
  exact bodyPost_ret (v := .tuple #[]) (by simp [results, Tryz.results54, go_sem]) rfl ⟨rfl, HG.out.trans (HG.out.par.setAt (q + 1))⟩
set_option maxRecDepth 100000 in
set_option maxHeartbeats 2000000 in
theorem must_no (P : Nat) (v : Value) (ts : List Tok) (q : Nat) (W : World) (h : Rdr P v ts q true W) (hi : q < ts.length) (hl : ts.length ≤ 2000000) (hF : Fine ts) (s : Int) (x : List UInt8) (hk : Key s x) (hx : (nthT ts q).text ≠ x) :
    Calls Tryz.prog 54 #[.pointer (some ⟨P, 0, none⟩), .int .u8 s, .string (str x)] W fun e w' => e = .returned (.tuple #[]) ∧ RGo P v ts q false W w' := by
  have HI := hidden (ris_key P v ts q true W h hi hl hF s x hk)
  rw [decide_eq_false hx] at HI
  have H0 := hidden h
  have hc2 := h.c2
  clear h hx
  go_enter Tryz.func54, Tryz.ntmps54
  go_wp2_with (go_at_call 56; (with_reducible refine HI.out.mono ?_); rintro e w1 ⟨rfl, hb⟩; have HG := hidden (RGo.stay H0.out hb); have k2 := HG.out.par.c2; have f2 := HG.out.par.fz 2; clear hb)
  go_end0
  exact ⟨rfl, HG.out.trans (HG.out.par.setOk false)⟩
set_option maxRecDepth 100000 in
set_option maxHeartbeats 2000000 in
theorem must_off (P : Nat) (v : Value) (ts : List Tok) (q : Nat) (W : World) (h : Rdr P v ts q false W) (s : Int) (x : List UInt8) :
    Calls Tryz.prog 54 #[.pointer (some ⟨P, 0, none⟩), .int .u8 s, .string (str x)] W fun e w' => e = .returned (.tuple #[]) ∧ RGo P v ts q false W w' := by
  have H0 := hidden h
  have hc2 := h.c2
  have f2 := h.fz 2
  clear h
  go_enter Tryz.func54, Tryz.ntmps54
  go_wp2
  go_end0
  exact ⟨rfl, H0.out.setOk false⟩
theorem must_any (P : Nat) (v : Value) (ts : List Tok) (q : Nat) (b : Bool) (W : World) (h : Rdr P v ts q b W) (hi : q < ts.length) (hl : ts.length ≤ 2000000) (hF : Fine ts) (hE : Ended ts) (s : Int) (x : List UInt8) (hk : Key s x) :
    Calls Tryz.prog 54 #[.pointer (some ⟨P, 0, none⟩), .int .u8 s, .string (str x)] W fun e w' => e = .returned (.tuple #[]) ∧ ∃ b' q', Follows b q (textR ts x) () b' q' ∧ RGo P v ts q' b' W w' ∧ q' < ts.length := by
  cases b with
  | false => exact (must_off P v ts q W h s x).mono fun _ _ ⟨h1, h2⟩ => ⟨h1, false, q, Or.inr (Or.inr ⟨rfl, rfl, rfl⟩), h2, hi⟩
  | true =>
    by_cases hx : (nthT ts q).text = x
    · exact (must_yes P v ts q W h hi hl hF s x hk hx).mono fun _ _ ⟨h1, h2⟩ => ⟨h1, true, q + 1, Or.inl ⟨rfl, rfl, by unfold textR; rw [if_pos hx]⟩, h2, hE.text_lt hi hk.1 hx⟩
    · exact (must_no P v ts q W h hi hl hF s x hk hx).mono fun _ _ ⟨h1, h2⟩ => ⟨h1, false, q, Or.inr (Or.inl ⟨rfl, rfl, by unfold textR; rw [if_neg hx]⟩), h2, hi⟩
/-! ### word, number -/
set_option maxRecDepth 100000 in
set_option maxHeartbeats 2000000 in
theorem rdword_yes (P : Nat) (v : Value) (ts : List Tok) (q : Nat) (W : World) (h : Rdr P v ts q true W) (hi : q < ts.length) (hl : ts.length ≤ 2000000) (hs : (nthT ts q).sort = 1) :
    Calls Tryz.prog 55 #[.pointer (some ⟨P, 0, none⟩)] W fun e w' => e = .returned (.string (str (nthT ts q).text)) ∧ RGo P v ts (q + 1) true W w' := by
  have H0 := hidden h
  have hc0 := h.c0
  have hc1 := h.c1
  have hc2 := h.c2
  have f1 := h.fz 1
  obtain ⟨g, cap, rfl, hne, hgl, hc⟩ := h.row
  obtain ⟨a0, a1, a2, a3⟩ := hc q hi
  have hne2 : ¬ (P = g) := fun e => hne e.symm
  have hii : (q : Int) < (ts.length : Int) := by omega
  have hii1 : (q : Int) + 1 - 1 = (q : Int) := by omega
  have hll : (ts.length : Int) ≤ 2000000 := by omega
  clear h hc
  rw [hs] at a0
  generalize hT : (nthT ts q).text = tx at *
  generalize hN : ts.length = N at *
  clear hs hT
  go_enter Tryz.func55, Tryz.ntmps55
  go_wp2
  go_quiet (fail)
  go_wp2
  go_quiet (fail)
  go_wp2
  go_ret
  refine ⟨rfl, ?_⟩
  rw [hN] at *
  exact ((RGo.stay H0.out (drew_below _ _)).trans ((H0.out.below (drew_below _ _)).setAt (q + 1))).later (drew_below _ _)
set_option maxRecDepth 100000 in
set_option maxHeartbeats 2000000 in
theorem rdword_no (P : Nat) (v : Value) (ts : List Tok) (q : Nat) (W : World) (h : Rdr P v ts q true W) (hi : q < ts.length) (hl : ts.length ≤ 2000000) (hs : (nthT ts q).sort ≠ 1) :
    Calls Tryz.prog 55 #[.pointer (some ⟨P, 0, none⟩)] W fun e w' => e = .returned (.string ⟨#[]⟩) ∧ RGo P v ts q false W w' := by
  have H0 := hidden h
  have hc0 := h.c0
  have hc1 := h.c1
  have hc2 := h.c2
  have f2 := h.fz 2
  obtain ⟨g, cap, rfl, hne, hgl, hc⟩ := h.row
  obtain ⟨a0, a1, a2, a3⟩ := hc q hi
  have hii : (q : Int) < (ts.length : Int) := by omega
  have hll : (ts.length : Int) ≤ 2000000 := by omega
  clear h hc a1 a2 a3
  generalize (nthT ts q).sort = so at *
  have g1 : (so == 1) = false := by simpa using hs
  have g2 : decide (so = 1) = false := decide_eq_false hs
  go_enter Tryz.func55, Tryz.ntmps55
  go_wp2
  go_quiet (fail)
  go_wp2
  go_ret
  exact ⟨rfl, (RGo.stay H0.out (drew_below _ _)).trans ((H0.out.below (drew_below _ _)).setOk false)⟩
set_option maxRecDepth 100000 in
set_option maxHeartbeats 2000000 in
theorem rdword_off (P : Nat) (v : Value) (ts : List Tok) (q : Nat) (W : World) (h : Rdr P v ts q false W) :
    Calls Tryz.prog 55 #[.pointer (some ⟨P, 0, none⟩)] W fun e w' => e = .returned (.string ⟨#[]⟩) ∧ RGo P v ts q false W w' := by
  have H0 := hidden h
  have hc2 := h.c2
  have f2 := h.fz 2
  clear h
  go_enter Tryz.func55, Tryz.ntmps55
  go_wp2
  go_quiet (fail)
  go_wp2
  go_ret
  exact ⟨rfl, (RGo.stay H0.out (drew_below _ _)).trans ((H0.out.below (drew_below _ _)).setOk false)⟩
theorem rdword_any (P : Nat) (v : Value) (ts : List Tok) (q : Nat) (b : Bool) (W : World) (h : Rdr P v ts q b W) (hi : q < ts.length) (hl : ts.length ≤ 2000000) (hE : Ended ts) :
    Calls Tryz.prog 55 #[.pointer (some ⟨P, 0, none⟩)] W fun e w' => ∃ (n : List UInt8) (b' : Bool) (q' : Nat), e = .returned (.string (str n)) ∧ Follows b q (nameR ts) n b' q' ∧ RGo P v ts q' b' W w' ∧ q' < ts.length := by
  cases b with
  | false => exact (rdword_off P v ts q W h).mono fun _ _ ⟨h1, h2⟩ => ⟨[], false, q, h1, Or.inr (Or.inr ⟨rfl, rfl, rfl⟩), h2, hi⟩
  | true =>
    by_cases hx : (nthT ts q).sort = 1
    · exact (rdword_yes P v ts q W h hi hl hx).mono fun _ _ ⟨h1, h2⟩ => ⟨(nthT ts q).text, true, q + 1, h1, Or.inl ⟨rfl, rfl, by unfold nameR; rw [if_pos hx]⟩, h2, hE.sort_lt hi (by decide) hx⟩
    · exact (rdword_no P v ts q W h hi hl hx).mono fun _ _ ⟨h1, h2⟩ => ⟨[], false, q, h1, Or.inr (Or.inl ⟨rfl, rfl, by unfold nameR; rw [if_neg hx]⟩), h2, hi⟩
set_option maxRecDepth 100000 in
set_option maxHeartbeats 2000000 in
theorem rdnumber_yes (P : Nat) (v : Value) (ts : List Tok) (q : Nat) (W : World) (h : Rdr P v ts q true W) (hi : q < ts.length) (hl : ts.length ≤ 2000000) (hs : (nthT ts q).sort = 2) :
    Calls Tryz.prog 97 #[.pointer (some ⟨P, 0, none⟩)] W fun e w' => e = .returned (.int .i64 (nthT ts q).num) ∧ RGo P v ts (q + 1) true W w' := by
  have H0 := hidden h
  have hc0 := h.c0
  have hc1 := h.c1
  have hc2 := h.c2
  have f1 := h.fz 1
  obtain ⟨g, cap, rfl, hne, hgl, hc⟩ := h.row
  obtain ⟨a0, a1, a2, a3⟩ := hc q hi
  have hne2 : ¬ (P = g) := fun e => hne e.symm
  have hii : (q : Int) < (ts.length : Int) := by omega
  have hii1 : (q : Int) + 1 - 1 = (q : Int) := by omega
  have hll : (ts.length : Int) ≤ 2000000 := by omega
  clear h hc
  rw [hs] at a0
  generalize hT : (nthT ts q).num = tx at *
  generalize hN : ts.length = N at *
  clear hs hT
  go_enter Tryz.func97, Tryz.ntmps97
  go_wp2
  go_quiet (fail)
  go_wp2
  go_quiet (fail)
  go_wp2
  go_ret
  refine ⟨rfl, ?_⟩
  rw [hN] at *
  exact ((RGo.stay H0.out (drew_below _ _)).trans ((H0.out.below (drew_below _ _)).setAt (q + 1))).later (drew_below _ _)
set_option maxRecDepth 100000 in
set_option maxHeartbeats 2000000 in
theorem rdnumber_no (P : Nat) (v : Value) (ts : List Tok) (q : Nat) (W : World) (h : Rdr P v ts q true W) (hi : q < ts.length) (hl : ts.length ≤ 2000000) (hs : (nthT ts q).sort ≠ 2) :
    Calls Tryz.prog 97 #[.pointer (some ⟨P, 0, none⟩)] W fun e w' => e = .returned (.int .i64 0) ∧ RGo P v ts q false W w' := by
  have H0 := hidden h
  have hc0 := h.c0
  have hc1 := h.c1
  have hc2 := h.c2
  have f2 := h.fz 2
  obtain ⟨g, cap, rfl, hne, hgl, hc⟩ := h.row
  obtain ⟨a0, a1, a2, a3⟩ := hc q hi
  have hii : (q : Int) < (ts.length : Int) := by omega
  have hll : (ts.length : Int) ≤ 2000000 := by omega
  clear h hc a1 a2 a3
  generalize (nthT ts q).sort = so at *
  have g1 : (so == 2) = false := by simpa using hs
  have g2 : decide (so = 2) = false := decide_eq_false hs
  go_enter Tryz.func97, Tryz.ntmps97
  go_wp2
  go_quiet (fail)
  go_wp2
  go_ret
  exact ⟨rfl, (RGo.stay H0.out (drew_below _ _)).trans ((H0.out.below (drew_below _ _)).setOk false)⟩
set_option maxRecDepth 100000 in
set_option maxHeartbeats 2000000 in
theorem rdnumber_off (P : Nat) (v : Value) (ts : List Tok) (q : Nat) (W : World) (h : Rdr P v ts q false W) :
    Calls Tryz.prog 97 #[.pointer (some ⟨P, 0, none⟩)] W fun e w' => e = .returned (.int .i64 0) ∧ RGo P v ts q false W w' := by
  have H0 := hidden h
  have hc2 := h.c2
  have f2 := h.fz 2
  clear h
  go_enter Tryz.func97, Tryz.ntmps97
  go_wp2
  go_quiet (fail)
  go_wp2
  go_ret
  exact ⟨rfl, (RGo.stay H0.out (drew_below _ _)).trans ((H0.out.below (drew_below _ _)).setOk false)⟩
theorem rdnumber_any (P : Nat) (v : Value) (ts : List Tok) (q : Nat) (b : Bool) (W : World) (h : Rdr P v ts q b W) (hi : q < ts.length) (hl : ts.length ≤ 2000000) (hE : Ended ts) :
    Calls Tryz.prog 97 #[.pointer (some ⟨P, 0, none⟩)] W fun e w' => ∃ (n : Int) (b' : Bool) (q' : Nat), e = .returned (.int .i64 n) ∧ Follows b q (numR ts) n b' q' ∧ RGo P v ts q' b' W w' ∧ q' < ts.length := by
  cases b with
  | false => exact (rdnumber_off P v ts q W h).mono fun _ _ ⟨h1, h2⟩ => ⟨0, false, q, h1, Or.inr (Or.inr ⟨rfl, rfl, rfl⟩), h2, hi⟩
  | true =>
    by_cases hx : (nthT ts q).sort = 2
    · exact (rdnumber_yes P v ts q W h hi hl hx).mono fun _ _ ⟨h1, h2⟩ => ⟨(nthT ts q).num, true, q + 1, h1, Or.inl ⟨rfl, rfl, by unfold numR; rw [if_pos hx]⟩, h2, hE.sort_lt hi (by decide) hx⟩
    · exact (rdnumber_no P v ts q W h hi hl hx).mono fun _ _ ⟨h1, h2⟩ => ⟨0, false, q, h1, Or.inr (Or.inl ⟨rfl, rfl, by unfold numR; rw [if_neg hx]⟩), h2, hi⟩
set_option maxRecDepth 100000 in
set_option maxHeartbeats 2000000 in
theorem rdnumbers_off (P : Nat) (v : Value) (ts : List Tok) (q : Nat) (W : World) (h : Rdr P v ts q false W) :
    Calls Tryz.prog 95 #[.pointer (some ⟨P, 0, none⟩)] W fun e w' => e = .returned (.slice none 0 0) ∧ RGo P v ts q false W w' := by
  have H0 := hidden h
  clear h
  go_enter Tryz.func95, Tryz.ntmps95
  go_wp2
  go_loopg [3] 0 (fun gk r wr => gk = 0 ∧ r = .slice none 0 0 ∧ ∃ m, wr = W.drewN m)
  case atStart => exact ⟨rfl, rfl, 0, rfl⟩
  case round =>
    obtain ⟨rfl, rfl, m, rfl⟩ := hrel
    have hc2 := H0.out.c2
    go_wp2
    go_quiet (fail)
    go_wp2
    go_ret
    exact ⟨rfl, (RGo.stay H0.out (drew_below _ _)).later (drew_below _ _)⟩
set_option maxRecDepth 100000 in
set_option maxHeartbeats 2000000 in
theorem rdnumbers_on (P : Nat) (v : Value) (ts : List Tok) (i : Nat) (W : World) (h : Rdr P v ts i true W) (hE : Ended ts) (hi : i < ts.length) (hl : ts.length ≤ 2000000) :
    Calls Tryz.prog 95 #[.pointer (some ⟨P, 0, none⟩)] W fun e w' => ∃ r, e = .returned r ∧ Ints_k W.heap.size w' r (numsR ts i) ∧ RGo P v ts (i + (numsR ts i).length) true W w' ∧ i + (numsR ts i).length < ts.length := by
  have HP := hidden h
  have HPL := hidden h.lt
  have HG0 := hidden (RGo.refl h)
  have HI0 : Hid (Ints_k W.heap.size W (.slice none 0 0) []) := World.ownsRow_nil _ _ _ _
  obtain ⟨g, cap, rfl, -⟩ := h.row
  have hll : (ts.length : Int) ≤ 2000000 := by omega
  clear h
  go_enter Tryz.func95, Tryz.ntmps95
  go_wp2
  go_loopg [3] (ts.length - i) (fun gk r wr => ∃ (j : Nat) (ns : List Int), i ≤ j ∧ j < ts.length ∧ gk = ts.length - j ∧ ns ++ numsR ts j = numsR ts i ∧ j = i + ns.length ∧ RGo P (.slice (some ⟨g, 0, none⟩) ts.length cap) ts j true W wr ∧ Ints_k W.heap.size wr r ns)
  case atStart => exact ⟨i, [], Nat.le_refl _, hi, rfl, rfl, rfl, HG0.out, HI0.out⟩
  case round =>
    clear HG0 HI0
    obtain ⟨j, ns, hij, hj, rfl, hns, hjn, hgo, hin⟩ := hrel
    have HGO := hidden hgo
    have HIN := hidden hin
    have HNS := hidden hns
    have HJN := hidden hjn
    have hc0 := hgo.par.c0
    have hc1 := hgo.par.c1
    have hc2 := hgo.par.c2
    have a0 : wr.cell? ⟨g, j * 4, none⟩ = some (.int .u8 (nthT ts j).sort) := by
      obtain ⟨g', cap', he, -, -, hc⟩ := hgo.par.row
      cases he
      exact (hc j hj).c0
    have hjI : (j : Int) < (ts.length : Int) := by omega
    clear hgo hin hns hjn
    by_cases h2 : (nthT ts j).sort = 2
    · have hj1 := hE.sort_lt hj (by decide) h2
      have HNS2 : Hid ((ns ++ [(nthT ts j).num]) ++ numsR ts (j + 1) = numsR ts i) := by
        show _ = _
        rw [← HNS.out, nums_step hj h2, List.append_assoc]
        rfl
      have HNM : Hid (∀ w1, Rdr P (.slice (some ⟨g, 0, none⟩) ts.length cap) ts j true w1 → Calls Tryz.prog 97 #[.pointer (some ⟨P, 0, none⟩)] w1 fun e w' => e = .returned (.int .i64 (nthT ts j).num) ∧ RGo P (.slice (some ⟨g, 0, none⟩) ts.length cap) ts (j + 1) true w1 w') := fun w1 h1 => rdnumber_yes P _ ts j w1 h1 hj hl h2
      rw [h2] at a0
      clear HNS h2
      generalize (nthT ts j).num = x at *
      obtain ⟨i0, hi', hz0, hz1, hz2⟩ := info_parts Tryz.info3'
      have HI := hidden hi'
      have HI0 := hidden hz0
      have HI1 := hidden hz1
      have HI2 := hidden hz2
      have HNL : Hid (ns.length ≤ 2000000) := by have := HJN.out; show _ ≤ _; omega
      clear hi' hz0 hz1 hz2
      go_wp2
      go_quiet (fail)
      go_wp2_with (first
        | (at_builtin; refine wpList_append_own _ rfl _ _ 60 rfl W.heap.size 3 i0 (.int .i64 0) 1 8 Tryz.underlying60 HI.out HI0.out HI1.out HI2.out rfl (by decide) _ ns.length (ns.map (Value.int .i64)) rfl (owns_below_k I2.out ((Below.refl _ _).alloc (Nat.le_refl _) _)) ⟨w2.heap.size, 0, none⟩ 1 1 [.int .i64 x] rfl rfl (int_new w2 _ _) (int_one _) (by have := HNL.out; unfold maxLen; omega) (by have := HNL.out; omega) (by have := G2.out.grown.size; simp; omega) ?_; intro r' w8 hown hgrow _; have I8 : Hid (Ints_k W.heap.size w8 r' (ns ++ [x])) := Ints_k.app hown; have G8 : Hid (RGo P (.slice (some ⟨g, 0, none⟩) ts.length cap) ts (j + 1) true W w8) := (G2.out.later ((Below.refl _ _).alloc (Nat.le_refl _) _)).own HP.out hgrow (own_row_k I2.out); clear hown hgrow)
        | (go_at_call 97; (with_reducible refine (HNM.out _ (HGO.out.later (drew_below _ _)).par).mono ?_); rintro e w2 ⟨rfl, hg⟩; have G2 := hidden ((HGO.out.later (drew_below _ _)).trans hg); have I2 := hidden (owns_grown_k (owns_below_k HIN.out (drew_below _ _)) hg.grown HPL.out); clear hg))
      go_roundg (ts.length - (j + 1))
      case measure => omega
      case rel => exact ⟨j + 1, ns ++ [x], by omega, hj1, rfl, HNS2.out, by have := HJN.out; simp; omega, G8.out, I8.out⟩
    · have HNS2 : Hid (ns = numsR ts i) := by
        show _ = _
        rw [← HNS.out, nums_stop h2, List.append_nil]
      clear HNS
      generalize (nthT ts j).sort = so at *
      have g1 : (so == 2) = false := by simpa using h2
      have g2 : decide (so = 2) = false := decide_eq_false h2
      clear h2
      go_wp2
      go_quiet (fail)
      go_wp2
      go_ret
      refine ⟨_, rfl, ?_⟩
      rw [← HNS2.out, ← HJN.out]
      exact ⟨owns_below_k HIN.out (drew_below _ _), HGO.out.later (drew_below _ _), hj⟩
theorem Plb.set2 {n w x y z} (h : Plb n w x y z) (u : Value) : Plb n (w.setCell ⟨n, 2, none⟩ u) x y u := by
  unfold Plb
  rw [heap_setCell_same w n 2 _ _ _ h]; rfl
set_option maxRecDepth 100000 in
set_option maxHeartbeats 4000000 in
theorem rdplace_any (P : Nat) (v : Value) (ts : List Tok) (q : Nat) (b : Bool) (W : World) (h : Rdr P v ts q b W) (hi : q < ts.length) (hl : ts.length ≤ 2000000) (hF : Fine ts) (hE : Ended ts) :
    Calls Tryz.prog 96 #[.pointer (some ⟨P, 0, none⟩)] W fun e w' => ∃ (p : Plc_k) (b' : Bool) (q' : Nat), e = .returned (.agg #[.string (str p.name), .int .i64 p.port, .int .i64 p.place]) ∧ Follows b q (placeR ts) p b' q' ∧ RGo P v ts q' b' W w' ∧ q' < ts.length := by
  have hb0 : Below W.heap.size W ((W.alloc (.cells #[.string ⟨#[]⟩, .int .i64 0, .int .i64 0] 101)).alloc (.cells #[.string ⟨#[]⟩, .int .i64 0, .int .i64 0] 101)) := ((Below.refl _ _).alloc (Nat.le_refl _) _).alloc (by simp) _
  have HG0 := hidden (RGo.stay h hb0)
  have HBK : Hid (∀ {n : Nat}, W.heap.size ≤ n → v.ownBlock ≠ some n ∧ P ≠ n) := fun hn => h.blk hn
  have HR0 : Hid (Plb W.heap.size ((W.alloc (.cells #[.string ⟨#[]⟩, .int .i64 0, .int .i64 0] 101)).alloc (.cells #[.string ⟨#[]⟩, .int .i64 0, .int .i64 0] 101)) (.string ⟨#[]⟩) (.int .i64 0) (.int .i64 0)) := (plb_new W _ _ _).below ((Below.refl _ _).alloc (Nat.le_refl _) _)
  have HL0 : Hid (Plb (W.heap.size + 1) ((W.alloc (.cells #[.string ⟨#[]⟩, .int .i64 0, .int .i64 0] 101)).alloc (.cells #[.string ⟨#[]⟩, .int .i64 0, .int .i64 0] 101)) (.string ⟨#[]⟩) (.int .i64 0) (.int .i64 0)) := by
    have h1 := plb_new (W.alloc (.cells #[.string ⟨#[]⟩, .int .i64 0, .int .i64 0] 101)) (.string ⟨#[]⟩) (.int .i64 0) (.int .i64 0)
    have h2 : (W.alloc (.cells #[.string ⟨#[]⟩, .int .i64 0, .int .i64 0] 101)).heap.size = W.heap.size + 1 := by simp
    rw [h2] at h1
    exact h1
  have hp := h.below hb0
  have hc0 := hp.c0
  have hc1 := hp.c1
  have hPl := hp.lt
  obtain ⟨g, cap, hv, -, hgl, hc⟩ := hp.row
  have a3 := (hc q hi).c3
  have hin := hi
  have hll : (ts.length : Int) ≤ 2000000 := by omega
  have HW : Hid (∀ w1 q1 b1, Rdr P v ts q1 b1 w1 → q1 < ts.length → Calls Tryz.prog 55 #[.pointer (some ⟨P, 0, none⟩)] w1 fun e w' => ∃ (n : List UInt8) (b' : Bool) (q' : Nat), e = .returned (.string (str n)) ∧ Follows b1 q1 (nameR ts) n b' q' ∧ RGo P v ts q' b' w1 w' ∧ q' < ts.length) := fun w1 q1 b1 h1 h2 => rdword_any P v ts q1 b1 w1 h1 h2 hl hE
  have HM : Hid (∀ w1 q1 b1, Rdr P v ts q1 b1 w1 → q1 < ts.length → Calls Tryz.prog 54 #[.pointer (some ⟨P, 0, none⟩), .int .u8 3, .string ⟨#[46]⟩] w1 fun e w' => e = .returned (.tuple #[]) ∧ ∃ b' q', Follows b1 q1 (textR ts [46]) () b' q' ∧ RGo P v ts q' b' w1 w' ∧ q' < ts.length) := fun w1 q1 b1 h1 h2 => must_any P v ts q1 b1 w1 h1 h2 hl hF hE 3 [46] ⟨by decide, Or.inr ⟨rfl, by decide⟩⟩
  have HN : Hid (∀ w1 q1 b1, Rdr P v ts q1 b1 w1 → q1 < ts.length → Calls Tryz.prog 97 #[.pointer (some ⟨P, 0, none⟩)] w1 fun e w' => ∃ (n : Int) (b' : Bool) (q' : Nat), e = .returned (.int .i64 n) ∧ Follows b1 q1 (numR ts) n b' q' ∧ RGo P v ts q' b' w1 w' ∧ q' < ts.length) := fun w1 q1 b1 h1 h2 => rdnumber_any P v ts q1 b1 w1 h1 h2 hl hE
  have HE : Hid (∀ n b1 j1 b2 j2 m b3 j3, Follows b q (nameR ts) n b1 j1 → Follows b1 j1 (textR ts [46]) () b2 j2 → Follows b2 j2 (numR ts) m b3 j3 → Follows b q (placeR ts) ⟨n, m, (nthT ts q).place⟩ b3 j3) := fun n b1 j1 b2 j2 m b3 j3 h1 h2 h3 =>
    (h1.next (g := fun n j => andThen (textR ts [46] j) fun _ j => andThen (numR ts j) fun p j => (some (⟨n, p, (nthT ts q).place⟩ : Plc_k), j)) (h2.next (g := fun _ j => andThen (numR ts j) fun p j => (some (⟨n, p, (nthT ts q).place⟩ : Plc_k), j)) (h3.done fun p => (⟨n, p, (nthT ts q).place⟩ : Plc_k)))).of rfl
  subst hv
  clear h hb0 hp hc
  generalize (nthT ts q).place = pl at *
  generalize hN : ts.length = N at *
  go_enter Tryz.func96, Tryz.ntmps96
  go_wp2
  generalize hW0 : (W.alloc (.cells #[.string ⟨#[]⟩, .int .i64 0, .int .i64 0] 101)).alloc (.cells #[.string ⟨#[]⟩, .int .i64 0, .int .i64 0] 101) = W0 at *
  refine wp_region_said 11 (fun i u v => match i with
      | 0 => v = .pointer (some ⟨P, 0, none⟩)
      | 1 => v = .pointer (some ⟨P, 0, none⟩)
      | 2 => v = .pointer (some ⟨P, 0, none⟩)
      | 3 => v = .slice (some ⟨g, 0, none⟩) N cap
      | 4 => v = .pointer (some ⟨P, 0, none⟩)
      | 5 => v = .pointer (some ⟨P, 0, none⟩)
      | 6 => v = .pointer (some ⟨P, 1, none⟩)
      | 7 => v = .int .i64 (q : Int)
      | 8 => v = .pointer (some ⟨g, q * 4, none⟩)
      | 9 => v = .pointer (some ⟨g, q * 4 + 3, none⟩)
      | 10 => v = .int .i64 pl
      | _ => True) (by kernel_rfl) (by kernel_rfl) (by kernel_rfl) (by kernel_rfl) ?_ ?_ ?_
  · intro i w v w' h hb
    match i, h with
    | 0, h => exact h
    | 1, h => exact h
    | 2, h => exact h
    | 3, h => exact h
    | 4, h => exact h
    | 5, h => exact h
    | 6, h => exact h
    | 7, h => exact h
    | 8, h => exact h
    | 9, h => exact h
    | 10, h => exact h
    | _ + 11, _ => trivial
  · intro i o ρ w' hi ho hb hc hf hfr hdep
    have LK : ∀ {a : Addr} {x : Value}, a.block < W0.heap.size → W0.cell? a = some x → w'.cell? a = some x := fun h1 h2 => (hb.cell h1).trans h2
    have k0 := LK hPl hc0
    have k1 := LK hPl hc1
    have k5 := LK hgl a3
    match i, hi with
    | 0, _ =>
      simp only [gTA, gCZ, gSI] at ho
      subst ho
      have ts : ρ (.tmp 0) = .pointer (some ⟨P, 0, none⟩) := hfr 0 (by kernel_rfl)
      simp [go_sem, ts]
      exact ⟨Below.refl _ _, rfl⟩
    | 1, _ =>
      simp only [gTA, gCZ, gCS, gSI] at ho
      subst ho
      have ts : ρ (.tmp 4) = .pointer (some ⟨P, 0, none⟩) := hdep 0 4 (by kernel_rfl) (by kernel_rfl)
      simp [go_sem, ts]
      exact ⟨Below.refl _ _, rfl⟩
    | 2, _ =>
      simp only [gTA, gCZ, gCS, gSI] at ho
      subst ho
      have ts : ρ (.tmp 5) = .pointer (some ⟨P, 0, none⟩) := hdep 1 5 (by kernel_rfl) (by kernel_rfl)
      simp [go_sem, ts]
      exact ⟨Below.refl _ _, rfl⟩
    | 3, _ =>
      simp only [gTA, gCZ, gCS, gSI] at ho
      subst ho
      have ts : ρ (.tmp 6) = .pointer (some ⟨P, 0, none⟩) := hdep 2 6 (by kernel_rfl) (by kernel_rfl)
      simp [go_sem, ts, k0]
      exact ⟨Below.refl _ _, rfl⟩
    | 4, _ =>
      simp only [gTA, gCZ, gCS, gSI] at ho
      subst ho
      have ts : ρ (.tmp 0) = .pointer (some ⟨P, 0, none⟩) := hfr 0 (by kernel_rfl)
      simp [go_sem, ts]
      exact ⟨Below.refl _ _, rfl⟩
    | 5, _ =>
      simp only [gTA, gCZ, gCS, gSI] at ho
      subst ho
      have ts : ρ (.tmp 8) = .pointer (some ⟨P, 0, none⟩) := hdep 4 8 (by kernel_rfl) (by kernel_rfl)
      simp [go_sem, ts]
      exact ⟨Below.refl _ _, rfl⟩
    | 6, _ =>
      simp only [gTA, gCZ, gCS, gSI] at ho
      subst ho
      have ts : ρ (.tmp 9) = .pointer (some ⟨P, 0, none⟩) := hdep 5 9 (by kernel_rfl) (by kernel_rfl)
      simp [go_sem, ts]
      exact ⟨Below.refl _ _, rfl⟩
    | 7, _ =>
      simp only [gTA, gCZ, gCS, gSI] at ho
      subst ho
      have ts : ρ (.tmp 10) = .pointer (some ⟨P, 1, none⟩) := hdep 6 10 (by kernel_rfl) (by kernel_rfl)
      simp [go_sem, ts, k1]
      exact ⟨Below.refl _ _, rfl⟩
    | 8, _ =>
      simp only [gTA, gCZ, gCS, gSI] at ho
      subst ho
      have t1 : ρ (.tmp 7) = .slice (some ⟨g, 0, none⟩) N cap := hdep 3 7 (by kernel_rfl) (by kernel_rfl)
      have t2 : ρ (.tmp 11) = .int .i64 (q : Int) := hdep 7 11 (by kernel_rfl) (by kernel_rfl)
      simp [go_sem, t1, t2, hin]
      exact ⟨Below.refl _ _, rfl⟩
    | 9, _ =>
      simp only [gTA, gCZ, gCS, gSI] at ho
      subst ho
      have ts : ρ (.tmp 12) = .pointer (some ⟨g, q * 4, none⟩) := hdep 8 12 (by kernel_rfl) (by kernel_rfl)
      simp [go_sem, ts]
      exact ⟨Below.refl _ _, rfl⟩
    | 10, _ =>
      simp only [gTA, gCZ, gCS, gSI] at ho
      subst ho
      have ts : ρ (.tmp 13) = .pointer (some ⟨g, q * 4 + 3, none⟩) := hdep 9 13 (by kernel_rfl) (by kernel_rfl)
      simp [go_sem, ts, k5]
      exact ⟨Below.refl _ _, rfl⟩
  · intro V w9 q9 hS
    have e0 : V 0 = .pointer (some ⟨P, 0, none⟩) := hS 0 (by decide)
    have e1 : V 1 = .pointer (some ⟨P, 0, none⟩) := hS 1 (by decide)
    have e2 : V 2 = .pointer (some ⟨P, 0, none⟩) := hS 2 (by decide)
    have e3 : V 3 = .slice (some ⟨g, 0, none⟩) N cap := hS 3 (by decide)
    have e4 : V 4 = .pointer (some ⟨P, 0, none⟩) := hS 4 (by decide)
    have e5 : V 5 = .pointer (some ⟨P, 0, none⟩) := hS 5 (by decide)
    have e6 : V 6 = .pointer (some ⟨P, 1, none⟩) := hS 6 (by decide)
    have e7 : V 7 = .int .i64 (q : Int) := hS 7 (by decide)
    have e8 : V 8 = .pointer (some ⟨g, q * 4, none⟩) := hS 8 (by decide)
    have e9 : V 9 = .pointer (some ⟨g, q * 4 + 3, none⟩) := hS 9 (by decide)
    have e10 : V 10 = .int .i64 pl := hS 10 (by decide)
    simp only [List.drop_succ_cons, List.drop_zero, List.take_succ_cons, List.take_zero, puts, e0, e1, e2, e3, e4, e5, e6, e7, e8, e9, e10]
    clear hS e0 e1 e2 e3 e4 e5 e6 e7 e8 e9 e10 V
    have G1 := hidden ((HG0.out.later q9).put (k := 2) (HBK.out (Nat.le_succ _)) (Nat.le_succ _) (.int .i64 pl))
    have L1a := HL0.out.below q9
    have L1 := hidden (L1a.set2 (.int .i64 pl))
    have R1 := hidden ((HR0.out.below q9).other (m := W.heap.size + 1) (k := 2) (by omega) (.int .i64 pl))
    obtain ⟨-, -, a2, -, -, af2⟩ := L1a.parts
    clear L1a q9 hc0 hc1 a3 HL0 HR0 HG0
    go_wp2_with (first
      | (go_at_call 97; (with_reducible refine (HN.out _ _ _ G3.out.par hj2).mono ?_); rintro e w4 ⟨m, b3, j3, rfl, F3, hg, hj3⟩; have G4 := hidden (G3.out.trans hg); have hP := HBK.out (Nat.le_refl W.heap.size); have L4 := hidden (L3.out.grown hg.grown (fun e => (HBK.out (Nat.le_succ W.heap.size)).2 (Option.some.inj e).symm)); have R4 := hidden (R3.out.grown hg.grown (fun e => hP.2 (Option.some.inj e).symm)); obtain ⟨l0, l1, l2, lf0, lf1, lf2⟩ := L4.out.parts; obtain ⟨r0, r1, r2, rf0, rf1, rf2⟩ := (R4.out.other (m := W.heap.size + 1) (k := 1) (by omega) (.int .i64 m)).parts; obtain ⟨m0, m1, m2, -, -, -⟩ := (L4.out.set1 (.int .i64 m)).parts; clear hP; clear hg)
      | (go_at_call 54; (with_reducible refine (HM.out _ _ _ G2.out.par hj1).mono ?_); rintro e w3 ⟨rfl, b2, j2, F2, hg, hj2⟩; have G3 := hidden (G2.out.trans hg); have L3 := hidden (L2.out.grown hg.grown (fun e => (HBK.out (Nat.le_succ W.heap.size)).2 (Option.some.inj e).symm)); have R3 := hidden (R2.out.grown hg.grown (fun e => (HBK.out (Nat.le_refl W.heap.size)).2 (Option.some.inj e).symm)); clear hg)
      | (go_at_call 55; (with_reducible refine (HW.out _ _ _ G1.out.par hi).mono ?_); rintro e w2 ⟨tx, b1, j1, rfl, F1, hg, hj1⟩; have G2 := hidden ((G1.out.trans hg).put (k := 0) (HBK.out (Nat.le_succ W.heap.size)) (Nat.le_succ W.heap.size) (.string (str tx))); have L2a := L1.out.grown hg.grown (fun e => (HBK.out (Nat.le_succ W.heap.size)).2 (Option.some.inj e).symm); obtain ⟨a0, -, -, af0, -, -⟩ := L2a.parts; have L2 := hidden (L2a.set0 (.string (str tx))); have R2 := hidden ((R1.out.grown hg.grown (fun e => (HBK.out (Nat.le_refl W.heap.size)).2 (Option.some.inj e).symm)).other (m := W.heap.size + 1) (k := 0) (by omega) (.string (str tx))); clear L2a; clear hg))
    exact bodyPost_ret (v := .agg #[.string (str tx), .int .i64 m, .int .i64 pl]) (by simp [results, Tryz.results96, go_sem, r0, r1, r2]) rfl ⟨⟨tx, m, pl⟩, b3, j3, rfl, HE.out _ _ _ _ _ _ _ _ F1 F2 F3, by
      have hP := HBK.out (Nat.le_refl W.heap.size)
      have hL := HBK.out (Nat.le_succ W.heap.size)
      exact (((G4.out.put hL (Nat.le_succ _) _).put hP (Nat.le_refl _) _).put hP (Nat.le_refl _) _).put hP (Nat.le_refl _) _, hj3⟩
end Go.Proofs.YtolpelfdhcccnaaGreatDoor
