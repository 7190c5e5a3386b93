/- Texts of one chain, laid one behind the other. -/
import Derived.Test.YtolpelfdhcccnaaGreatDoorPartSourceParses15
import Derived.Test.YtolpelfdhcccnaaGreatDoorPartSourceParses17
namespace Go.Proofs.YtolpelfdhcccnaaGreatDoor
open Go.ChangeShapes Go.WideShapes Go.ChangeAt Go.RowKit
/-- A row of tokens, cell by cell. -/
theorem Toks.open {base w v ts} (h : Toks base w v ts) (hn : ts ≠ []) : ∃ g cap, v = .slice (some ⟨g, 0, none⟩) ts.length cap ∧ ∀ j u, (ts.flatMap tokC)[j]? = some u → w.cell? ⟨g, j, none⟩ = some u := by
  have h0 := h
  rcases h.2 with ⟨-, h2⟩ | ⟨g, cap, cur, rfl, -⟩
  · exact absurd (List.eq_nil_of_length_eq_zero h2) hn
  · refine ⟨g, cap, rfl, fun j u hj => ?_⟩
    have h1 := World.ownsRow.cells h0 (g := g) rfl j u hj
    have e : (⟨g, 0, none⟩ : Addr).add j = ⟨g, j, none⟩ := by
      unfold Addr.add
      by_cases h0 : j = 0
      · subst h0; rfl
      · simp [h0]
    rw [e] at h1
    exact h1
theorem Toks.cell {base w g n cap ts} (h : Toks base w (.slice (some ⟨g, 0, none⟩) n cap) ts) {j : Nat} {u : Value} (hj : (ts.flatMap tokC)[j]? = some u) : w.cell? ⟨g, j, none⟩ = some u := by
  have hn : ts ≠ [] := by intro e; subst e; simp at hj
  obtain ⟨g', cap', he, hc⟩ := h.open hn
  cases he
  exact hc j u hj
theorem text_zero {l : List UInt8} (h : (textG l).err = 0) : (textG l).place = 0 := by
  unfold textG at h ⊢
  split
  · rename_i h1; rw [if_pos h1] at h; cases h
  · rename_i h1; rw [if_neg h1] at h; exact allL_zero h
theorem Toks.shape {base w v ts} (h : Toks base w v ts) : ∃ a cap, v = .slice a ts.length cap := by
  rcases h.2 with ⟨h1, h2⟩ | ⟨g, cap, cur, rfl, -⟩
  · exact ⟨none, 0, by rw [h1, h2]⟩
  · exact ⟨_, cap, rfl⟩
def nthT (ts : List Tok) (k : Nat) : Tok := ts.getD k noTok
/-- A token's four cells at a place. -/
structure Cell4 (w : World) (g o : Nat) (t : Tok) : Prop where
  c0 : w.cell? ⟨g, o, none⟩ = some (.int .u8 t.sort)
  c1 : w.cell? ⟨g, o + 1, none⟩ = some (.string (str t.text))
  c2 : w.cell? ⟨g, o + 2, none⟩ = some (.int .i64 t.num)
  c3 : w.cell? ⟨g, o + 3, none⟩ = some (.int .i64 t.place)
/-- A row of tokens lies in memory where a slice says. -/
def AtT (w : World) (a : Option Addr) (ts : List Tok) : Prop :=
  ts = [] ∨ ∃ g off, a = some ⟨g, off, none⟩ ∧ ∀ k, k < ts.length → Cell4 w g (off + k * 4) (nthT ts k)
theorem flat_get : ∀ (ts : List Tok) (k r : Nat), k < ts.length → r < 4 → (ts.flatMap tokC)[k * 4 + r]? = (tokC (nthT ts k))[r]?
  | [], k, r, h, _ => by simp at h
  | t :: ts, 0, r, _, hr => by
    rw [List.flatMap_cons, List.getElem?_append_left (by show 0 * 4 + r < 4; omega), Nat.zero_mul, Nat.zero_add]
    rfl
  | t :: ts, k + 1, r, h, hr => by
    rw [List.flatMap_cons, List.getElem?_append_right (by show 4 ≤ (k + 1) * 4 + r; omega)]
    have e : (k + 1) * 4 + r - (tokC t).length = k * 4 + r := by show (k + 1) * 4 + r - 4 = _; omega
    rw [e, flat_get ts k r (by simp at h; omega) hr]
    rfl
theorem Toks.at {base w v ts} (h : Toks base w v ts) : ∃ a cap, v = .slice a ts.length cap ∧ AtT w a ts := by
  by_cases hn : ts = []
  · obtain ⟨a, cap, he⟩ := h.shape
    exact ⟨a, cap, he, Or.inl hn⟩
  · obtain ⟨g, cap, he, hc⟩ := h.open hn
    refine ⟨_, cap, he, Or.inr ⟨g, 0, rfl, fun k hk => ?_⟩⟩
    have f : ∀ r u, r < 4 → (tokC (nthT ts k))[r]? = some u → w.cell? ⟨g, k * 4 + r, none⟩ = some u := fun r u hr hu => hc _ u (by rw [flat_get ts k r hk hr]; exact hu)
    rw [Nat.zero_add]
    exact ⟨f 0 _ (by decide) rfl, f 1 _ (by decide) rfl, f 2 _ (by decide) rfl, f 3 _ (by decide) rfl⟩
theorem Cell4.below {w w' g o t} (h : Cell4 w g o t) (hb : Below w.heap.size w w') : Cell4 w' g o t :=
  ⟨(hb.cell (block_lt_of_cell h.c0)).trans h.c0, (hb.cell (block_lt_of_cell h.c1)).trans h.c1, (hb.cell (block_lt_of_cell h.c2)).trans h.c2, (hb.cell (block_lt_of_cell h.c3)).trans h.c3⟩
theorem AtT.below {w w' a ts} (h : AtT w a ts) (hb : Below w.heap.size w w') : AtT w' a ts := by
  rcases h with h | ⟨g, off, rfl, hc⟩
  · exact Or.inl h
  · exact Or.inr ⟨g, off, rfl, fun k hk => (hc k hk).below hb⟩
theorem nthT_take {ts : List Tok} {n k : Nat} (h : k < n) : nthT (ts.take n) k = nthT ts k := by
  unfold nthT
  rw [List.getD_eq_getElem?_getD, List.getD_eq_getElem?_getD, List.getElem?_take_of_lt h]
theorem AtT.take {w a ts} (h : AtT w a ts) (n : Nat) : AtT w a (ts.take n) := by
  rcases h with h | ⟨g, off, rfl, hc⟩
  · exact Or.inl (by rw [h]; simp)
  · refine Or.inr ⟨g, off, rfl, fun k hk => ?_⟩
    rw [List.length_take] at hk
    rw [nthT_take (by omega)]
    exact hc k (by omega)
end Go.Proofs.YtolpelfdhcccnaaGreatDoor
namespace Go.Proofs.YtolpelfdhcccnaaGreatDoor
structure Plc_k where
  name : List UInt8
  port : Int
  place : Int
def noPlc_k : Plc_k := ⟨[], 0, 0⟩
structure Itm_k where
  kind : Int
  name : List UInt8
  tag : List UInt8
  nums : List Int
  frm : Plc_k
  to : Plc_k
  place : Int
structure Skt_k where
  name : List UInt8
  items : List Itm_k
/-- What is read from a token on: the thing, and where it ends; or nothing, and the token that may not stand there. -/
abbrev Rd (α : Type) := Option α × Nat
def andThen {α β : Type} (r : Rd α) (f : α → Nat → Rd β) : Rd β :=
  match r with
  | (some a, j) => f a j
  | (none, j) => (none, j)
theorem then_some {α β : Type} (a : α) (j : Nat) (f : α → Nat → Rd β) : andThen (some a, j) f = f a j := rfl
theorem then_none {α β : Type} (j : Nat) (f : α → Nat → Rd β) : andThen (none, j) f = (none, j) := rfl
def textR (ts : List Tok) (x : List UInt8) (i : Nat) : Rd Unit := if (nthT ts i).text = x then (some (), i + 1) else (none, i)
def nameR (ts : List Tok) (i : Nat) : Rd (List UInt8) := if (nthT ts i).sort = 1 then (some (nthT ts i).text, i + 1) else (none, i)
def numR (ts : List Tok) (i : Nat) : Rd Int := if (nthT ts i).sort = 2 then (some (nthT ts i).num, i + 1) else (none, i)
def numsL : List Tok → List Int
  | [] => []
  | t :: r => if t.sort = 2 then t.num :: numsL r else []
def numsR (ts : List Tok) (i : Nat) : List Int := numsL (ts.drop i)
def placeR (ts : List Tok) (i : Nat) : Rd Plc_k :=
  andThen (nameR ts i) fun n j => andThen (textR ts [46] j) fun _ j => andThen (numR ts j) fun p j => (some ⟨n, p, (nthT ts i).place⟩, j)
def actorR (ts : List Tok) (i : Nat) : Rd Itm_k :=
  andThen (textR ts [97, 99, 116, 111, 114] i) fun _ j => andThen (nameR ts j) fun n j => andThen (textR ts [61] j) fun _ j => andThen (nameR ts j) fun t j =>
    (some ⟨1, n, t, numsR ts j, noPlc_k, noPlc_k, (nthT ts i).place⟩, j + (numsR ts j).length)
def withR (ts : List Tok) (j : Nat) : Rd (List Int) :=
  if (nthT ts j).text = [119, 105, 116, 104] then andThen (numR ts (j + 1)) fun x k => (some (x :: numsR ts k), k + (numsR ts k).length) else (some [], j)
def edgeR (ts : List Tok) (i : Nat) : Rd Itm_k :=
  andThen (textR ts [101, 100, 103, 101] i) fun _ j => andThen (placeR ts j) fun f j => andThen (textR ts [45, 62] j) fun _ j => andThen (placeR ts j) fun t j =>
    andThen (withR ts j) fun xs j => (some ⟨2, [], [], xs, f, t, (nthT ts i).place⟩, j)
def inR (ts : List Tok) (i : Nat) : Rd Itm_k :=
  andThen (textR ts [105, 110] i) fun _ j => andThen (nameR ts j) fun n j => andThen (textR ts [45, 62] j) fun _ j => andThen (placeR ts j) fun t j =>
    (some ⟨3, n, [], [], noPlc_k, t, (nthT ts i).place⟩, j)
def outR (ts : List Tok) (i : Nat) : Rd Itm_k :=
  andThen (textR ts [111, 117, 116] i) fun _ j => andThen (placeR ts j) fun f j => andThen (textR ts [45, 62] j) fun _ j => andThen (nameR ts j) fun n j =>
    (some ⟨4, n, [], [], f, noPlc_k, (nthT ts i).place⟩, j)
def bodyR (ts : List Tok) (i : Nat) : Rd Itm_k :=
  if (nthT ts i).text = [97, 99, 116, 111, 114] then actorR ts i
  else if (nthT ts i).text = [101, 100, 103, 101] then edgeR ts i
  else if (nthT ts i).text = [105, 110] then inR ts i
  else outR ts i
def itemR (ts : List Tok) (i : Nat) : Rd Itm_k := andThen (bodyR ts i) fun x j => andThen (textR ts [59] j) fun _ k => (some x, k)
def itemsF : Nat → List Tok → Nat → Rd (List Itm_k)
  | 0, _, i => (none, i)
  | n + 1, ts, i => if (nthT ts i).text = [125] then (some [], i) else andThen (itemR ts i) fun x j => andThen (itemsF n ts j) fun xs k => (some (x :: xs), k)
def sketchR (ts : List Tok) : Rd Skt_k :=
  andThen (textR ts [103, 114, 97, 112, 104] 0) fun _ i => andThen (nameR ts i) fun n i => andThen (textR ts [123] i) fun _ i => andThen (itemsF ts.length ts i) fun xs i =>
    andThen (textR ts [125] i) fun _ i => if (nthT ts i).sort = 0 then (some ⟨n, xs⟩, i + 1) else (none, i)
/-- The last token is the end: it has no text, and is neither a word nor a number. -/
structure Ended (ts : List Tok) : Prop where
  pos : 0 < ts.length
  sort : (nthT ts (ts.length - 1)).sort = 0
  text : (nthT ts (ts.length - 1)).text = []
theorem Ended.text_lt {ts : List Tok} (h : Ended ts) {i : Nat} (hi : i < ts.length) {x : List UInt8} (hx : x ≠ []) (e : (nthT ts i).text = x) : i + 1 < ts.length := by
  rcases Nat.lt_or_ge (i + 1) ts.length with h1 | h1
  · exact h1
  · have e2 : i = ts.length - 1 := by omega
    rw [e2, h.text] at e
    exact absurd e.symm hx
theorem Ended.sort_lt {ts : List Tok} (h : Ended ts) {i : Nat} (hi : i < ts.length) {x : Int} (hx : x ≠ 0) (e : (nthT ts i).sort = x) : i + 1 < ts.length := by
  rcases Nat.lt_or_ge (i + 1) ts.length with h1 | h1
  · exact h1
  · have e2 : i = ts.length - 1 := by omega
    rw [e2, h.sort] at e
    exact absurd e.symm hx
theorem nums_step {ts : List Tok} {i : Nat} (hi : i < ts.length) (h : (nthT ts i).sort = 2) : numsR ts i = (nthT ts i).num :: numsR ts (i + 1) := by
  unfold numsR
  rw [List.drop_eq_getElem_cons hi]
  have e : nthT ts i = ts[i] := by unfold nthT; rw [List.getD_eq_getElem?_getD, List.getElem?_eq_getElem hi]; rfl
  rw [e] at h ⊢
  show (if _ then _ else _) = _
  rw [if_pos h]
theorem nums_stop {ts : List Tok} {i : Nat} (h : (nthT ts i).sort ≠ 2) : numsR ts i = [] := by
  unfold numsR
  rcases Nat.lt_or_ge i ts.length with hi | hi
  · rw [List.drop_eq_getElem_cons hi]
    have e : nthT ts i = ts[i] := by unfold nthT; rw [List.getD_eq_getElem?_getD, List.getElem?_eq_getElem hi]; rfl
    rw [e] at h
    show (if _ then _ else _) = _
    rw [if_neg h]
  · rw [List.drop_eq_nil_of_le hi]; rfl
theorem nums_lt {ts : List Tok} (hE : Ended ts) : ∀ (n j : Nat), ts.length - j ≤ n → j < ts.length → j + (numsR ts j).length < ts.length
  | 0, j, h, hj => by omega
  | n + 1, j, h, hj => by
    by_cases h2 : (nthT ts j).sort = 2
    · have h3 := hE.sort_lt hj (by decide) h2
      have := nums_lt hE n (j + 1) (by omega) h3
      rw [nums_step hj h2, List.length_cons]
      omega
    · rw [nums_stop h2]
      exact hj
end Go.Proofs.YtolpelfdhcccnaaGreatDoor
namespace Go.Proofs.YtolpelfdhcccnaaGreatDoor
open Go.ChangeShapes Go.WideShapes Go.ChangeAt Go.RowKit
theorem rletter_any_k (b : Int) (w : World) : Calls Tryz.prog 117 #[.int .u8 b] w fun e w' => e = .returned (.bool (letB b)) ∧ w = w' := by
  by_cases h1 : (97 : Int) ≤ b <;> by_cases h2 : b ≤ 122 <;>
  · have e : letB b = (decide (97 ≤ b) && decide (b ≤ 122)) := rfl
    simp only [h1, h2, decide_true, decide_false, Bool.and_true, Bool.and_false] at e
    rw [e]
    go_enter Tryz.func117, Tryz.ntmps117
    go_wp2
    go_ret
    exact ⟨rfl, rfl⟩
theorem rdigit_any_k (b : Int) (w : World) : Calls Tryz.prog 145 #[.int .u8 b] w fun e w' => e = .returned (.bool (digB b)) ∧ w = w' := by
  by_cases h1 : (48 : Int) ≤ b <;> by_cases h2 : b ≤ 57 <;>
  · have e : digB b = (decide (48 ≤ b) && decide (b ≤ 57)) := rfl
    simp only [h1, h2, decide_true, decide_false, Bool.and_true, Bool.and_false] at e
    rw [e]
    go_enter Tryz.func145, Tryz.ntmps145
    go_wp2
    go_ret
    exact ⟨rfl, rfl⟩
theorem rinside_any_k (b : Int) (w : World) : Calls Tryz.prog 118 #[.int .u8 b] w fun e w' => e = .returned (.bool (wordB b)) ∧ w = w' := by
  have e : wordB b = (letB b || digB b || decide (b = 95)) := rfl
  rw [e]
  clear e
  have h1 := hidden (rletter_any_k b)
  have h2 := hidden (rdigit_any_k b)
  generalize letB b = x at *
  generalize digB b = y at *
  cases x <;> cases y
  · by_cases h3 : b = 95
    · subst h3
      go_enter Tryz.func118, Tryz.ntmps118
      go_wp2_with (first
        | (go_at_call 145; (with_reducible refine (h2.out _).mono ?_); rintro e w' ⟨rfl, rfl⟩)
        | (go_at_call 117; (with_reducible refine (h1.out _).mono ?_); rintro e w' ⟨rfl, rfl⟩))
      go_ret
      exact ⟨rfl, rfl⟩
    · have d3 : decide (b = 95) = false := decide_eq_false h3
      go_enter Tryz.func118, Tryz.ntmps118
      go_wp2_with (first
        | (go_at_call 145; (with_reducible refine (h2.out _).mono ?_); rintro e w' ⟨rfl, rfl⟩)
        | (go_at_call 117; (with_reducible refine (h1.out _).mono ?_); rintro e w' ⟨rfl, rfl⟩))
      go_ret
      exact ⟨by simp [h3], rfl⟩
  all_goals
    go_enter Tryz.func118, Tryz.ntmps118
    go_wp2_with (first
      | (go_at_call 145; (with_reducible refine (h2.out _).mono ?_); rintro e w' ⟨rfl, rfl⟩)
      | (go_at_call 117; (with_reducible refine (h1.out _).mono ?_); rintro e w' ⟨rfl, rfl⟩))
    go_ret
    exact ⟨rfl, rfl⟩
theorem row_next_k {p : Int → Bool} {l : List UInt8} {i : Nat} (h : i ≤ rowN p l) (hi : i < l.length) (hp : p (by8 l i) = true) : i + 1 ≤ rowN p l := by
  rcases Nat.lt_or_ge i (rowN p l) with h1 | h1
  · exact h1
  · have e : rowN p l = i := by omega
    have := rowN_out p l (by omega)
    rw [e, hp] at this
    cases this
/-- A variable that was made stands behind a call, and behind what is made then. -/
structure Two (w : World) (n : Nat) (x y : Value) : Prop where
  lt : n < w.heap.size
  c0 : w.cell? ⟨n, 0, none⟩ = some x
  c1 : w.cell? ⟨n, 1, none⟩ = some y
theorem Two.later {w w' : World} {n : Nat} {x y : Value} (h : Two w n x y) (hb : Below w.heap.size w w') : Two w' n x y := ⟨Nat.lt_of_lt_of_le h.lt hb.size, (hb.cell (p := ⟨n, 0, none⟩) h.lt).trans h.c0, (hb.cell (p := ⟨n, 1, none⟩) h.lt).trans h.c1⟩
theorem Two.alloc {w : World} {n : Nat} {x y : Value} (h : Two w n x y) (o : Obj) : Two (w.alloc o) n x y := h.later ((Below.refl _ _).alloc (Nat.le_refl _) _)
end Go.Proofs.YtolpelfdhcccnaaGreatDoor
