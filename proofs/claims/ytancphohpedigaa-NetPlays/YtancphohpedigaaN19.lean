/- Scripts of calls that come in; the walk of NetPlays. (Written by tmpl/mkN19.py.) -/
import Derived.Test.YtancphohpedigaaN18
import Derived.Deep.MidRow
namespace Go.Proofs.Ytancphohpedigaa
open Go.ChangeShapes Go.WideShapes Go.ChangeAt Go.RowKit

def nthOp (S : List (Int × List Int)) (k : Nat) : (Int × List Int) := S.getD k (0, [])
/-- A script that came in. -/
def OpsN (w : World) (a : Option Addr) (S : List (Int × List Int)) : Prop := S = [] ∨ ∃ b off, a = some ⟨b, off, none⟩ ∧ ∀ k, k < S.length → w.cell? ⟨b, off + k * 2, none⟩ = some (.int .i64 (nthOp S k).1) ∧ ∃ x c, w.cell? ⟨b, off + k * 2 + 1, none⟩ = some (.slice x (nthOp S k).2.length c) ∧ Arg w x (nthOp S k).2.length c (nthOp S k).2
structure ArgOp (w : World) (a : Option Addr) (len : Nat) (S : List (Int × List Int)) : Prop where
  size : S.length = len
  lies : OpsN w a S
  room : len ≤ 4611686018427387904
theorem OpsN.below {w w' : World} {a : Option Addr} {S : List (Int × List Int)} (h : OpsN w a S) (hb : Below w.heap.size w w') : OpsN w' a S := by
  rcases h with h | ⟨b, off, e, hc⟩
  · exact .inl h
  · refine .inr ⟨b, off, e, fun k hk => ?_⟩
    obtain ⟨h1, x, c, h2, h3⟩ := hc k hk
    exact ⟨cellN_later hb h1, x, c, cellN_later hb h2, h3.below hb⟩
theorem Try.cellsOp : Try.prog.cellsOf 50 = 2 := by kernel_rfl
theorem Try.cellsSLn : Try.prog.cellsOf 45 = 1 := by kernel_rfl
theorem Try.bytesOp : Try.prog.bytesOf 50 = 32 := by kernel_rfl
section
variable {H : Type} {enc : TypeId × Value → H} {W : World} {base : Nat} {held : Bool}
theorem wAll_memN {P : Program} {e : TypeId} {q : Nat → Bool} : ∀ {l : List (DataW H)} {d : DataW H}, d ∈ l → (DataW.weightsAll P e l).all q = true → (d.weights P e).all q = true
  | [], _, h, _ => by simp at h
  | d0 :: l, d, h, hw => by
    simp only [DataW.weightsAll, List.all_append, Bool.and_eq_true] at hw
    rcases List.mem_cons.1 h with rfl | h
    · exact hw.1
    · exact wAll_memN h hw.2
theorem numsN_open {n : Nat} {v : Value} {y : DataW H × List MemPlace} (h : DataW.trod enc Try.prog W base (fun _ => true) held n 45 [v] = some y) (hw : (y.1.weights Try.prog 45).all (· ≤ reachBytes) = true) :
    ∃ (ns : List Int) (x : Option Addr) (c : Nat), v = .slice x ns.length c ∧ Arg W x ns.length c ns := by
  rcases open_ints Try.underlying45 Try.underlying3 Try.cells3N h with ⟨h1, -⟩ | ⟨a, len, cap, zs, h1, -, hl, -, hz, hx, hc, hb⟩
  · simp only [List.cons.injEq, and_true] at h1
    subst h1
    exact ⟨[], none, 0, rfl, arg_nil⟩
  · simp only [List.cons.injEq, and_true] at h1
    subst h1
    simp only [if_true] at hz
    have hl2 : (zs.take len).length = len := by rw [List.length_take]; omega
    have hr : len * 8 ≤ 140737488351232 := by
      rw [hx] at hw
      simp only [DataW.weights, Try.underlying45, List.all_cons, Bool.and_eq_true, decide_eq_true_eq, Try.bytes3] at hw
      have := hw.1
      simp only [reachBytes, lits, List.length_map, List.length_take, List.length_drop] at this
      omega
    refine ⟨zs.take len, some a, cap, by rw [hl2], ?_⟩
    rw [hl2]
    exact arg_mk hl hz hc hb hr
set_option maxRecDepth 100000 in
theorem opN_open {n : Nat} {cs : List Value} {y : DataW H × List MemPlace} (h : DataW.trod enc Try.prog W base (fun _ => true) held n 50 cs = some y) (hw : (y.1.weights Try.prog 50).all (· ≤ reachBytes) = true) :
    ∃ (p : (Int × List Int)) (x : Option Addr) (c : Nat), cs = [.int .i64 p.1, .slice x p.2.length c] ∧ Arg W x p.2.length c p.2 := by
  obtain ⟨xs, k, hk, hxy, hcl, hxl, hf⟩ := DataW.trod_struct Try.underlying50 h
  rw [Try.cellsOp] at hcl
  match xs, hxl, cs, hcl with
  | [y0, y1], _, [v0, v1], _ =>
    have g0 := hf 0 _ rfl
    have g1 := hf 1 _ rfl
    simp [Try.cells3N, Try.cellsSLn] at g0 g1
    have hw1 : (y1.1.weights Try.prog 45).all (· ≤ reachBytes) = true := by
      rw [hxy] at hw
      simp only [DataW.weights, Try.underlying50] at hw
      rw [List.all_eq_true] at hw ⊢
      exact fun m hm => hw m (DataW.weights_mem_each (j := 1) (t := 45) (d := y1.1) rfl rfl m hm)
    obtain ⟨z0, q0, -, -⟩ := DataW.trod_int Try.underlying3 g0
    obtain ⟨ns, x, c, q1, hA⟩ := numsN_open g1 hw1
    simp only [List.cons.injEq, and_true] at q0
    subst q0 q1
    exact ⟨(z0, ns), x, c, rfl, hA⟩
set_option maxRecDepth 100000 in
theorem opsN_open {n : Nat} {v : Value} {y : DataW H × List MemPlace} (h : DataW.trod enc Try.prog W base (fun _ => true) held n 42 [v] = some y) (hw : (y.1.weights Try.prog 42).all (· ≤ reachBytes) = true) :
    ∃ (a : Option Addr) (len cap : Nat) (S : List (Int × List Int)), v = .slice a len cap ∧ ArgOp W a len S := by
  rcases Deep.open_slice Try.underlying42 h with ⟨h1, -⟩ | ⟨x, len, cap, m, n, D, Pl, h1, -, hl, -, hm, hd, hx⟩
  · simp only [List.cons.injEq, and_true] at h1
    subst h1
    exact ⟨none, 0, 0, [], rfl, rfl, .inl rfl, by decide⟩
  · simp only [List.cons.injEq, and_true] at h1
    subst h1
    simp only [if_true] at hm
    rw [hd] at hw
    simp only [DataW.weights, Try.underlying42, List.all_cons, List.all_append, Bool.and_eq_true, decide_eq_true_eq, Try.bytesOp] at hw
    obtain ⟨wr, we, -⟩ := hw
    simp only [reachBytes, List.length_map, List.length_range] at wr
    have each : ∀ i, i < len → ∃ p : (Int × List Int) × Option Addr × Nat, W.cells? base (x.add (i * 2)) 2 = some [.int .i64 p.1.1, .slice p.2.1 p.1.2.length p.2.2] ∧ Arg W p.2.1 p.1.2.length p.2.2 p.1.2 := by
      intro i hi
      obtain ⟨cs', h1, h2⟩ := hx i (by omega)
      rw [Try.cellsOp] at h1
      obtain ⟨p, x', c', rfl, hp⟩ := opN_open h2 (wAll_memN (List.mem_map.2 ⟨i, List.mem_range.2 hi, rfl⟩) we)
      exact ⟨(p, x', c'), h1, hp⟩
    obtain ⟨q, hq⟩ := chooseN ((0, []), none, 0) each
    have hn : ∀ k, k < len → nthOp ((List.range len).map fun i => (q i).1) k = (q k).1 := fun k hk => by
      unfold nthOp; rw [List.getD_eq_getElem?_getD, List.getElem?_map, List.getElem?_range hk]; rfl
    refine ⟨some x, len, cap, (List.range len).map fun i => (q i).1, rfl, by simp, ?_, by omega⟩
    by_cases h0 : 0 < len
    · right
      have cell : ∀ i, i < len → ∀ j u, ([.int .i64 (q i).1.1, .slice (q i).2.1 (q i).1.2.length (q i).2.2] : List Value)[j]? = some u → W.cell? ((x.add (i * 2)).add j) = some u := fun i hi j u hu => by
        obtain ⟨_, hlen, hc⟩ := World.cells?_some (hq i hi).1
        have hj : j < 2 := by
          have := (List.getElem?_eq_some_iff.1 hu).1
          simpa using this
        rw [hc j hj, hu]
      have hs := off_noneN (W := W) (x := x.add (0 * 2)) (cell 0 h0 0 _ rfl)
      obtain ⟨b, off, sp⟩ := x
      simp [Addr.add] at hs
      subst hs
      refine ⟨b, off, rfl, fun k hk => ?_⟩
      have hk' : k < len := by simpa using hk
      rw [hn k hk']
      have c := cell k hk'
      rw [Addr.add_lit] at c
      exact ⟨by simpa [Addr.add_lit] using c 0 _ rfl, _, _, by simpa [Addr.add_lit] using c 1 _ rfl, (hq k hk').2⟩
    · left
      have e : len = 0 := by omega
      subst e
      rfl
end
theorem DocS.mid {B E Q : Nat} {w w' : World} {n : NN} {a : Option Addr} {g N : Nat} {F : List Int} (h : DocS Q w n a g N F) (hm : Mid B E w w') (hg : E ≤ g) (ha : ∀ x, a = some x → n.arcs ≠ [] → x.block < B) : DocS Q w' n a g N F := by
  refine ⟨?_, h.fir.keep (fun x hx => by cases hx; exact hm.block _ (h.fir.lt _ rfl).2 (.inr hg)), h.lF, h.nodes, h.sound, h.far, h.inr⟩
  by_cases hne : n.arcs = []
  · exact .inl hne
  · rcases h.arcs with e | ⟨b, off, e, hc⟩
    · exact absurd e hne
    · have hl : 0 < n.arcs.length := List.length_pos_iff.2 hne
      have hb := hm.block b (block_lt_of_cell (hc 0 hl).1) (.inl (ha _ e hne))
      refine .inr ⟨b, off, e, fun k hk => ?_⟩
      obtain ⟨h0, h1, h2, h3, h4⟩ := hc k hk
      exact ⟨cell_block hb h0, cell_block hb h1, cell_block hb h2, cell_block hb h3, cell_block hb h4⟩
theorem atN_lt {w : World} {a : Option Addr} {L : List NA} (h : AtN w a L) (hne : L ≠ []) {x : Addr} (hx : a = some x) : x.block < w.heap.size := by
  rcases h with h | ⟨b, off, e, hc⟩
  · exact absurd h hne
  · rw [e] at hx
    cases hx
    exact block_lt_of_cell (hc 0 (List.length_pos_iff.2 hne)).1
/-- All old blocks but a row's are as they were. -/
structure ButO (d : Option Addr) (w w' : World) : Prop where
  os : w'.os = w.os
  tape : w'.tape = w.tape
  output : w'.output = w.output
  size : w.heap.size ≤ w'.heap.size
  block : ∀ k, k < w.heap.size → (∀ x, d = some x → x.block ≠ k) → w'.heap[k]? = w.heap[k]?
theorem ButO.refl (d : Option Addr) (w : World) : ButO d w w := ⟨rfl, rfl, rfl, Nat.le_refl _, fun _ _ _ => rfl⟩
theorem setCells_but (b : Nat) : ∀ (vs : List Value) (o : Nat) (w : World), But b w (w.setCells b o vs)
  | [], _, _ => But.of_below (Below.refl _ _)
  | v :: vs, o, w => (But.set w b o v).trans (setCells_but b vs (o + 1) _)
theorem ButO.but {b : Nat} {w w' w'' : World} (h : ButO (some ⟨b, 0, none⟩) w w') (hb : But b w' w'') : ButO (some ⟨b, 0, none⟩) w w'' := ⟨hb.os.trans h.os, hb.tape.trans h.tape, hb.output.trans h.output, Nat.le_trans h.size hb.size, fun k hk hn => (hb.block k (Nat.lt_of_lt_of_le hk h.size) (fun e => hn _ rfl e.symm)).trans (h.block k hk hn)⟩
theorem owns_there {w : World} {base n g cap : Nat} {xs : List Value} (h : w.ownsRow base 44 5 (.slice (some ⟨g, 0, none⟩) n cap) n xs) : w.there g 0 (n * 5) := by
  rcases h.2 with ⟨e, -⟩ | ⟨g1, c1, cur, e1, hg, hh, hc, hm, hs, -⟩
  · cases e
  · cases e1
    intro j hj
    have hlt : j < cur.size := by rw [hs]; have : n * 5 ≤ cap * 5 := Nat.mul_le_mul_right 5 hc; omega
    have hB : BlkA 44 g w cur := hh
    rw [Nat.zero_add]
    refine ⟨?_, hB.frozen j⟩
    rw [hB.cell (Array.getElem?_eq_getElem hlt)]
    rfl
theorem wpList_storeM {w : World} {ops : Array Oper} {rest : List Oper} {o : Oper} {a : Act} {Q : Exit → Act → World → Prop} (hgd : o.guard = none) (ty : TypeId) (x y : Operand) (ho : o.op = .store ty x y) (hdst : o.dst = none) (b off : Nat) (cells : Array Value) (hx : a.eval x = .pointer (some ⟨b, off, none⟩)) (hy : a.eval y = .agg cells) (ht : w.there b off cells.size) (hi : (Try.prog.info? ty).map (·.size) = some cells.size) (h1 : cells.toList.all (·.oneCell') = true)
    (h : ∀ w', But b w w' → (∀ g o n, w.there g o n → w'.there g o n) → wpList Try.prog ops Q rest a w') : wpList Try.prog ops Q (o :: rest) a w := by
  refine wpList_store_mid hgd ty x y ho b off cells hx hy ht hi (by rw [← Array.all_toList]; exact h1) ?_
  rw [hdst]
  exact h _ (setCells_but b _ off w) fun g o n hg => World.there_setCells hg b off _
theorem Lend.keepN {base : Nat} {w w' : World} {g len : Nat} {zs : List Int} (h : Lend base w g len zs) (hk : w'.heap[g]? = w.heap[g]?) : Lend base w' g len zs := ⟨h.1, h.2.1, h.2.2.keep fun x hx => by cases hx; exact hk⟩
theorem Lend.lt {base : Nat} {w : World} {g len : Nat} {zs : List Int} (h : Lend base w g len zs) : base ≤ g ∧ g < w.heap.size := ⟨h.1, at_lt h.2.2 (by simp) rfl⟩
theorem sizArc : (Try.prog.info? 44).map (·.size) = some 5 := by kernel_rfl
theorem owns_later5 {w w' : World} {base n : Nat} {v : Value} {xs : List Value} (h : w.ownsRow base 44 5 v n xs) (hb : Below w.heap.size w w') : w'.ownsRow base 44 5 v n xs := by
  refine ⟨h.1, ?_⟩
  rcases h.2 with q | ⟨g, cap, cur, e1, hg, hh, r⟩
  · exact .inl q
  · exact .inr ⟨g, cap, cur, e1, hg, (hb.block g (Array.getElem?_eq_some_iff.1 hh).1).trans hh, r⟩
theorem StE.but {B E g : Nat} {w w' : World} {K : Nat} {n : NN} {T F : List Int} (h : StE B E w K n T F) (hb : But g w w') (hg : g < B ∨ E ≤ g) : StE B E w' K n T F := h.keep (fun k h1 h2 => hb.block k (Nat.lt_of_lt_of_le h2 h.low.2) (by omega)) hb.size

set_option maxRecDepth 100000 in
set_option maxHeartbeats 16000000 in
theorem netPlays_walk (n : NN) (a : Option Addr) (c : Nat) (a1 : Option Addr) (len1 cap1 : Nat) (S : List (Int × List Int)) (w : World) (h : ArgN w a c n) (h1 : ArgOp w a1 len1 S) : Calls Try.prog 5 #[.agg #[.int .i64 n.nodes, .slice a n.arcs.length c], .slice a1 len1 cap1] w fun e w' => e = .returned (.bool true) ∧ Below w.heap.size w w' := by
  have b0 := (Below.refl w.heap.size w).alloc (Nat.le_refl _) (.cells #[.int .i64 n.nodes, .slice a n.arcs.length c] 24)
  have G0 := hiddenN (blkA_new 24 w #[.int .i64 n.nodes, .slice a n.arcs.length c])
  have B0 := hiddenN b0
  have AW : Hid (∀ U, Calls Try.prog 14 #[] U fun e w' => e = .returned (.bool true) ∧ Below U.heap.size U w') := fun U => awakeN U
  have z0 := G0.out.cell (k := 0) rfl
  have z1 := G0.out.cell (k := 1) rfl
  simp only [List.getElem_toArray, List.getElem_cons_zero, List.getElem_cons_succ] at z0 z1
  clear b0
  obtain rfl := h1.size
  have HA := hiddenN h
  have H1 := hiddenN h1
  have hroom : n.arcs.length ≤ 4611686018427387904 := by have := h.room; omega
  have hroomS := h1.room
  have NM : Hid (∀ U, Below w.heap.size w U → Calls Try.prog 10 #[.agg #[.int .i64 n.nodes, .slice a n.arcs.length c]] U (NetE n U)) := fun U hb => rnet_any n a c U (HA.out.below hb)
  have CD : Hid (∀ U, Below w.heap.size w U → Calls Try.prog 9 #[.agg #[.int .i64 n.nodes, .slice a n.arcs.length c]] U fun e w' => e = .returned (.int .i64 (checkN n)) ∧ Below U.heap.size U w') := fun U hb => rcheck10_any n a c U (HA.out.below hb).lies hroom
  clear h h1
  go_enter Try.func5, Try.ntmps5
  go_upto_region 1 with fail
  generalize w.alloc (.cells #[.int .i64 n.nodes, .slice a n.arcs.length c] 24) = W0 at *
  go_upto_region 2 with (go_at_call 10; (with_reducible refine (NM.out _ B0.out).mono ?_); rintro e W1 ⟨d, cc, rfl, q1, q2, q3, q4, q5⟩; have Q1 := hiddenN q1; have Q2 := hiddenN q2; have Q3 := hiddenN q3; have Q4 := hiddenN q4; have L1 := hiddenN (B0.out.trans (q5.mono B0.out.size)); have G1 := hiddenN (G0.out.below q5); have h01 := q5.size; clear q1 q2 q3 q4 q5 z0 z1)
  have b2 := (Below.refl W1.heap.size W1).alloc (Nat.le_refl _) (.cells #[.int .i64 n.nodes, .slice d n.arcs.length cc] 24)
  have X2 := hiddenN (blkA_new 24 W1 #[.int .i64 n.nodes, .slice d n.arcs.length cc])
  have G2 := hiddenN (G1.out.below b2)
  have L2 := hiddenN (L1.out.trans (b2.mono L1.out.size))
  have R2 := hiddenN (Q1.out.below b2)
  have O2 := hiddenN (owns_later5 Q4.out b2)
  have hs2 : W1.heap.size < (W1.alloc (.cells #[.int .i64 n.nodes, .slice d n.arcs.length cc] 24)).heap.size := by rw [World.size_alloc]; omega
  obtain ⟨pb, hpb⟩ : ∃ q, W1.heap.size = q := ⟨_, rfl⟩
  rw [hpb] at X2 hs2 Q3 ⊢
  generalize W1.alloc (.cells #[.int .i64 n.nodes, .slice d n.arcs.length cc] 24) = W2 at *
  have hpb0 : W0.heap.size ≤ pb := by omega
  clear b2 hpb Q1 Q4 G1 L1
  have x0 := X2.out.cell (k := 0) rfl
  have x1 := X2.out.cell (k := 1) rfl
  simp only [List.getElem_toArray, List.getElem_cons_zero, List.getElem_cons_succ] at x0 x1
  have NW := hiddenN (new_any n d cc W2 R2.out hroom Q2.out)
  by_cases hc0 : checkN n = 0
  · have NY : Hid (Calls Try.prog 12 #[.agg #[.int .i64 n.nodes, .slice d n.arcs.length cc]] W2 fun e w' => ∃ K E, e = .returned (.tuple #[.pointer (some ⟨K, 0, none⟩), .int .i64 0]) ∧ StE W2.heap.size E w' K n (startT n) (List.replicate n.nodes.toNat 0) ∧ Below W2.heap.size W2 w') := NW.out.mono fun e w' hh => by
      unfold NewE at hh
      rw [if_pos hc0] at hh
      exact hh
    have HSN := hiddenN (check_sound hc0)
    rw [hc0] at CD
    obtain ⟨N, hNN⟩ : ∃ k, n.nodes.toNat = k := ⟨_, rfl⟩
    have hNI : n.nodes = (N : Int) := by have := nodes_nat HSN.out; omega
    have HNI := hiddenN hNI
    have IV := hiddenN (start_inv HSN.out (T := startT n) rfl)
    rw [hNN] at NY IV
    clear NW NM hNI hNN
    go_upto_region 3 with (go_at_call 12; (with_reducible refine NY.out.mono ?_); rintro e W3 ⟨K, E, rfl, s3, b3⟩; have S3 := hiddenN s3; have X3 := hiddenN (X2.out.below b3); have G3 := hiddenN (G2.out.below b3); have L3 := hiddenN (L2.out.trans (b3.mono L2.out.size)); have O3 := hiddenN (owns_later5 O2.out b3); have h23 := b3.size; clear s3 b3 x0 x1)
    have g0 := G3.out.cell (k := 0) rfl
    have g1 := G3.out.cell (k := 1) rfl
    simp only [List.getElem_toArray, List.getElem_cons_zero, List.getElem_cons_succ] at g0 g1
    have CD3 := hiddenN (CD.out _ L3.out)
    obtain ⟨B, hB⟩ : ∃ q, W2.heap.size = q := ⟨_, rfl⟩
    rw [hB] at S3 hs2
    clear NY CD X2 G2 L2 O2 R2
    go_upto_region 8 with (go_at_call 9; (with_reducible refine CD3.out.mono ?_); rintro e W4 ⟨rfl, b4⟩; have S4 := hiddenN (S3.out.below b4); have X4 := hiddenN (X3.out.below b4); have G4 := hiddenN (G3.out.below b4); have L4 := hiddenN (L3.out.trans (b4.mono L3.out.size)); have O4 := hiddenN (owns_later5 O3.out b4); clear b4 g0 g1)
    clear S3 X3 G3 L3 O3 CD3
    have hw0 := B0.out.size
    have hgw := G0.out.lt
    have hE4 := S4.out.low
    have hmost := HSN.out.most
    have hpbB : pb < B := hs2
    go_wp2
    go_loopg [9] n.arcs.length (fun gk u wr => ∃ i : Nat, i ≤ n.arcs.length ∧ gk = n.arcs.length - i ∧ u = .int .i64 (i : Int) ∧ ButO d W4 wr ∧ ∀ gd, d = some ⟨gd, 0, none⟩ → wr.there gd 0 (n.arcs.length * 5))
    case atStart => exact ⟨0, Nat.zero_le _, rfl, rfl, ButO.refl _ _, fun gd e => by have q := O4.out; rw [e] at q; exact owns_there q⟩
    case round =>
      obtain ⟨i, hi, rfl, rfl, hBt, hTh⟩ := hrel
      have HBt := hiddenN hBt
      have HTh := hiddenN hTh
      clear hBt hTh
      have dpb : ∀ x, d = some x → x.block ≠ pb := fun x hx => by have := (Q3.out x hx).2; omega
      have X5 := hiddenN (X4.out.keep (HBt.out.block pb X4.out.lt dpb))
      have x1 := X5.out.cell (k := 1) rfl
      simp only [List.getElem_toArray, List.getElem_cons_zero, List.getElem_cons_succ] at x1
      by_cases hil : i < n.arcs.length
      · have hii : (i : Int) < (n.arcs.length : Int) := by omega
        obtain ⟨gd, ed⟩ : ∃ gd, d = some ⟨gd, 0, none⟩ := by
          rcases O4.out.2 with ⟨e, e0⟩ | ⟨gd, cap, cur, e1, -⟩
          · omega
          · exact ⟨gd, by cases e1; rfl⟩
        subst ed
        have th := HTh.out gd rfl
        have th5 : Hid (wr.there gd (i * 5) 5) := fun j hj => by
          have q := th (i * 5 + j) (by omega)
          rw [Nat.zero_add] at q
          exact q
        clear X5
        go_wp2_with (refine wpList_storeM rfl 44 (.tmp 48) (.tmp 47) rfl rfl gd (i * 5) #[.int .i64 0, .int .i64 0, .int .i64 1, .int .i64 1, .int .i64 9] rfl rfl th5.out sizArc rfl ?_; intro w8 hb8 ht8; have BN := hiddenN (HBt.out.but hb8); have TN := hiddenN (ht8 gd 0 _ th); clear hb8 ht8)
        go_roundg (n.arcs.length - (i + 1))
        case measure => omega
        case rel => exact ⟨i + 1, by omega, rfl, by go_num, BN.out, fun gd' e => by cases e; exact TN.out⟩
      · have ei : i = n.arcs.length := by omega
        have hii : ¬ (i : Int) < (n.arcs.length : Int) := by omega
        have S5 : Hid (StE B E wr K n (startT n) (List.replicate N 0)) := S4.out.keep (fun k h1 h2 => HBt.out.block k (by omega) (fun x hx => by have := (Q3.out x hx).2; omega)) HBt.out.size
        have G5 := hiddenN (G4.out.keep (HBt.out.block _ G4.out.lt (fun x hx => by have := (Q3.out x hx).1; omega)))
        have L5 : Hid (Below w.heap.size w wr) := ⟨HBt.out.os.trans L4.out.os, HBt.out.tape.trans L4.out.tape, HBt.out.output.trans L4.out.output, Nat.le_trans L4.out.size HBt.out.size, fun k hk => (HBt.out.block k (by have := L4.out.size; omega) (fun x hx => by have := (Q3.out x hx).1; omega)).trans (L4.out.block k hk)⟩
        have hs5 := HBt.out.size
        clear S4 X4 G4 L4 O4 HBt HTh X5 Q2 dpb
        obtain ⟨W5, hW5⟩ : ∃ W, wr = W := ⟨_, rfl⟩
        rw [hW5] at S5 G5 L5 hs5 x1 ⊢
        clear hW5
        have g0 := G5.out.cell (k := 0) rfl
        have g1 := G5.out.cell (k := 1) rfl
        simp only [List.getElem_toArray, List.getElem_cons_zero, List.getElem_cons_succ] at g0 g1
        have haB : ∀ x, a = some x → n.arcs ≠ [] → x.block < w.heap.size := fun x hx hne => atN_lt HA.out.lies hne hx
        have ST := hiddenN (rstart10_any W5 n a c N HSN.out HNI.out (HA.out.below L5.out).lies (fun x hx hne => by have := haB x hx hne; have := L5.out.size; omega))
        go_upto_region 13 with (go_at_call 17; (with_reducible refine ST.out.mono ?_); rintro e W6 ⟨g, rfl, d6, b6⟩; have D6 := hiddenN d6; have S6 := hiddenN (S5.out.below b6); have L6 := hiddenN (L5.out.trans (b6.mono L5.out.size)); clear d6 b6 g0 g1 x1)
        have b7 := (Below.refl W6.heap.size W6).alloc (Nat.le_refl _) (.cells #[.int .i64 n.nodes, .slice a n.arcs.length c, .slice (some ⟨g, 0, none⟩) N N] 47)
        have X7 := hiddenN (blkA_new 47 W6 #[.int .i64 n.nodes, .slice a n.arcs.length c, .slice (some ⟨g, 0, none⟩) N N])
        have P7 : Hid (PlS B E K W5.heap.size g N n a (startT n) (List.replicate N 0) (W6.alloc (.cells #[.int .i64 n.nodes, .slice a n.arcs.length c, .slice (some ⟨g, 0, none⟩) N N] 47))) := ⟨S6.out.below b7, D6.out.below b7, IV.out⟩
        have L7 := hiddenN (L6.out.trans (b7.mono L6.out.size))
        have hg5 := (D6.out.fir.lt _ rfl).1
        have hg6 := (D6.out.fir.lt _ rfl).2
        simp only at hg5 hg6
        obtain ⟨tb, htb⟩ : ∃ q, W6.heap.size = q := ⟨_, rfl⟩
        rw [htb] at X7 hg6 ⊢
        obtain ⟨Q5, hQ5⟩ : ∃ q, W5.heap.size = q := ⟨_, rfl⟩
        rw [hQ5] at P7 hg5 hs5
        generalize W6.alloc (.cells #[.int .i64 n.nodes, .slice a n.arcs.length c, .slice (some ⟨g, 0, none⟩) N N] 47) = W7 at *
        have hEg : E ≤ g := by omega
        have hwB : w.heap.size ≤ B := by omega
        have htg : tb ≠ g := by omega
        have htE : E ≤ tb := by omega
        clear b7 htb D6 S6 L6 S5 G5 L5 ST hQ5 IV
        go_wp2
        go_loopg [11] S.length (fun gk u wr => ∃ (q : Nat) (T F : List Int), q ≤ S.length ∧ gk = S.length - q ∧ u = .int .i64 (q : Int) ∧ PlS B E K Q5 g N n a T F wr ∧ BlkA 47 tb wr #[.int .i64 n.nodes, .slice a n.arcs.length c, .slice (some ⟨g, 0, none⟩) N N] ∧ Below w.heap.size w wr)
        case atStart => exact ⟨0, _, _, Nat.zero_le _, rfl, rfl, P7.out, X7.out, L7.out⟩
        case round =>
          clear P7 X7 L7
          obtain ⟨q, T, F, hq, rfl, rfl, hP, hX, hL⟩ := hrel
          have HP := hiddenN hP
          have HX := hiddenN hX
          have HL := hiddenN hL
          clear hP hX hL
          by_cases hlt : q < S.length
          · have hki : (q : Int) < (S.length : Int) := by omega
            have LR : Hid (∀ U, Below w.heap.size w U → OpsN U a1 S) := fun U hb => H1.out.lies.below hb
            rcases LR.out w (Below.refl _ _) with e | ⟨sb, so, ea, hc⟩
            · rw [e] at hlt; simp at hlt
            obtain ⟨k0, zx, zc, k1, az⟩ := hc q hlt
            have c0 := cellN_later HL.out k0
            have c1 := cellN_later HL.out k1
            have AZ := hiddenN az
            subst ea
            have hzr : (nthOp S q).2.length ≤ 4611686018427387904 := by have := az.reach; omega
            generalize (nthOp S q).1 = ask at *
            generalize (nthOp S q).2 = zs at *
            clear k0 k1 hc LR az
            go_upto_region 17 with fail
            have b8 := (Below.refl wr.heap.size wr).alloc (Nat.le_refl _) (.cells #[.int .i64 ask, .slice zx zs.length zc] 50)
            have XO := hiddenN (blkA_new 50 wr #[.int .i64 ask, .slice zx zs.length zc])
            have P8 := hiddenN (HP.out.below b8)
            have X8 := hiddenN (HX.out.below b8)
            have L8 := hiddenN (HL.out.trans (b8.mono HL.out.size))
            obtain ⟨ob, hob⟩ : ∃ q, wr.heap.size = q := ⟨_, rfl⟩
            rw [hob] at XO ⊢
            generalize wr.alloc (.cells #[.int .i64 ask, .slice zx zs.length zc] 50) = V1 at *
            have hobg : g < ob ∧ tb < ob ∧ E ≤ ob := by rw [← hob]; exact ⟨(HP.out.t.fir.lt _ rfl).2, HX.out.lt, HP.out.s.low.2⟩
            clear b8 HP HX HL c0 c1 hob
            have o0 := XO.out.cell (k := 0) rfl
            have o1 := XO.out.cell (k := 1) rfl
            have t0 := X8.out.cell (k := 0) rfl
            have t1 := X8.out.cell (k := 1) rfl
            have t2 := X8.out.cell (k := 2) rfl
            simp only [List.getElem_toArray, List.getElem_cons_zero, List.getElem_cons_succ] at o0 o1 t0 t1 t2
            by_cases hask : ask = 0
            · subst hask
              have LN := hiddenN (lent_any zx zs zs.length zc V1 (AZ.out.below L8.out))
              have hV1 := P8.out.s.low
              go_upto_region 21 with (go_at_call 19; (with_reducible refine LN.out.mono ?_); rintro e W8 ⟨gl, rfl, hl, b9⟩; have LD := hiddenN hl; have P9 := hiddenN (P8.out.below b9); have X9 := hiddenN (X8.out.below b9); have O9 := hiddenN (XO.out.below b9); have M9 := hiddenN (L8.out.trans (b9.mono L8.out.size)); clear hl b9 o0 o1 t0 t1 t2)
              have hgl := LD.out.lt
              have hgV : ob < V1.heap.size := XO.out.lt
              have F1 := hiddenN (fires_any W8 K n T F P9.out.s (some ⟨gl, 0, none⟩) (zs.length + 4) zs LD.out.at hzr (fun x hx _ => by cases hx; exact .inr (by show E ≤ gl; omega)))
              have FI := hiddenN (fires_inv HSN.out zs T F P9.out.i)
              obtain ⟨r, hr⟩ : ∃ r, firesN n zs T F = r := ⟨_, rfl⟩
              have HRR := hiddenN hr
              rw [hr] at F1 FI
              clear hr LN P8 X8 XO L8
              have h9l := P9.out.s.low
              go_upto_region 22 with (go_at_call 20; (with_reducible refine F1.out.mono ?_); rintro e W9 ⟨rfl, s10, m10⟩; have S10 := hiddenN s10; have D10 := hiddenN (P9.out.t.mid m10 hEg (fun x hx hne => by have := haB x hx hne; omega)); have LD10 := hiddenN (LD.out.keepN (m10.block gl hgl.2 (.inr (by omega)))); have X10 := hiddenN (X9.out.keep (m10.block tb X9.out.lt (.inr htE))); have O10 := hiddenN (O9.out.keep (m10.block ob O9.out.lt (.inr hobg.2.2))); have L10 := hiddenN (M9.out.trans ((m10.below h9l.1).mono hwB)); clear s10 m10)
              have t0 := X10.out.cell (k := 0) rfl
              have t1 := X10.out.cell (k := 1) rfl
              have t2 := X10.out.cell (k := 2) rfl
              have o1 := O10.out.cell (k := 1) rfl
              simp only [List.getElem_toArray, List.getElem_cons_zero, List.getElem_cons_succ] at t0 t1 t2 o1
              have RF := hiddenN (rfire10_any W9 n a c g N T F D10.out P9.out.i zx zc zs (AZ.out.below L10.out).lies hzr (fun x hx hne => by have := at_lt AZ.out.lies hne hx; omega))
              rw [HRR.out] at RF
              have hrb : ((r.1 : Int) != (r.1 : Int)) = false := by simp
              have hgl10 := LD10.out.lt
              have hzrl := AZ.out.reach
              clear F1 HRR LD X9 O9 M9 P9
              generalize r.1 = rn at *
              obtain ⟨T', hT'⟩ : ∃ T', r.2.1 = T' := ⟨_, rfl⟩
              obtain ⟨F', hF'⟩ : ∃ F', r.2.2 = F' := ⟨_, rfl⟩
              rw [hT'] at S10 FI
              rw [hF'] at S10 FI RF
              clear hT' hF'
              go_wp2_with (first
                | (go_at_call 21; (with_reducible refine RF.out.mono ?_); rintro e W10 ⟨rfl, d11, m11⟩; have D11 := hiddenN d11; have S11 := hiddenN (S10.out.but m11 (.inr hEg)); have LD11 := hiddenN (LD10.out.keepN (m11.block gl hgl10.2 (by omega))); have X11 := hiddenN (X10.out.keep (m11.block tb X10.out.lt htg)); have O11 := O10.out.keep (m11.block ob O10.out.lt (by omega)); have L11 := hiddenN (L10.out.trans (m11.below (by omega) L10.out.size)); have o2 := O11.cell (k := 1) rfl; clear d11 m11 O11 o1; simp only [List.getElem_toArray, List.getElem_cons_zero, List.getElem_cons_succ] at o2; have KP := hiddenN (kept_any gl zx zs zs.length zc _ _ LD11.out (AZ.out.below L11.out)))
                | (go_at_call 22; (with_reducible refine KP.out.mono ?_); rintro e W11 ⟨mm, rfl, rfl⟩))
              go_roundg (S.length - (q + 1))
              case measure => omega
              case rel => exact ⟨q + 1, T', F', by omega, rfl, by go_num, ⟨S11.out.below (drewB (Below.refl _ _) _), D11.out.below (drewB (Below.refl _ _) _), FI.out⟩, X11.out.below (drewB (Below.refl _ _) _), drewB L11.out _⟩
            · have hab : (ask != 0) = true := by simpa using hask
              have AK := hiddenN (asked_any V1 c P8.out ask zx zc zs (AZ.out.below L8.out).lies hzr)
              go_wp2_with (go_at_call 18; (with_reducible refine AK.out.mono ?_); rintro e U ⟨rfl, b9⟩; have P9 := hiddenN (P8.out.below b9); have X9 := hiddenN (X8.out.below b9); have L9' := hiddenN (L8.out.trans (b9.mono L8.out.size)); clear b9)
              go_roundg (S.length - (q + 1))
              case measure => omega
              case rel => exact ⟨q + 1, _, _, by omega, rfl, by go_num, P9.out, X9.out, L9'.out⟩
          · have ek : q = S.length := by omega
            have hki : ¬ (q : Int) < (S.length : Int) := by omega
            have t0 := HX.out.cell (k := 0) rfl
            have t1 := HX.out.cell (k := 1) rfl
            have t2 := HX.out.cell (k := 2) rfl
            simp only [List.getElem_toArray, List.getElem_cons_zero, List.getElem_cons_succ] at t0 t1 t2
            have K1 : Hid (Calls Try.prog 18 #[.pointer (some ⟨K, 0, none⟩), .agg #[.int .i64 n.nodes, .slice a n.arcs.length c, .slice (some ⟨g, 0, none⟩) N N], .agg #[.int .i64 1, .slice none 0 0]] wr fun e w' => e = .returned (.bool true) ∧ Below wr.heap.size wr w') := asked_any wr c HP.out 1 none 0 [] (.inl rfl) (by decide)
            have K2 : Hid (∀ U, Below wr.heap.size wr U → Calls Try.prog 18 #[.pointer (some ⟨K, 0, none⟩), .agg #[.int .i64 n.nodes, .slice a n.arcs.length c, .slice (some ⟨g, 0, none⟩) N N], .agg #[.int .i64 2, .slice none 0 0]] U fun e w' => e = .returned (.bool true) ∧ Below U.heap.size U w') := fun U hb => asked_any U c (HP.out.below hb) 2 none 0 [] (.inl rfl) (by decide)
            go_wp2_with (first
              | (go_at_call 18; (with_reducible refine K1.out.mono ?_); rintro e U1 ⟨rfl, b1⟩; have K2' := hiddenN (K2.out _ b1); have XU := HX.out.below b1; have LU := hiddenN (HL.out.trans (b1.mono HL.out.size)); clear b1 K1 K2 t0 t1 t2; have t0 := XU.cell (k := 0) rfl; have t1 := XU.cell (k := 1) rfl; have t2 := XU.cell (k := 2) rfl; simp only [List.getElem_toArray, List.getElem_cons_zero, List.getElem_cons_succ] at t0 t1 t2)
              | (go_at_call 18; (with_reducible refine K2'.out.mono ?_); rintro e U2 ⟨rfl, b2⟩; have LZ := hiddenN (LU.out.trans (b2.mono LU.out.size)); clear b2)
              | (go_at_call 14; (with_reducible refine (AW.out _).mono ?_); rintro e w9 ⟨rfl, b9⟩; have L9 := hiddenN (LZ.out.trans (b9.mono LZ.out.size)); clear b9))
            go_ret
            exact ⟨by first | rfl | simp, L9.out⟩
  · have NO : Hid (Calls Try.prog 12 #[.agg #[.int .i64 n.nodes, .slice d n.arcs.length cc]] W2 fun e w' => e = .returned (.tuple #[.pointer none, .int .i64 (checkN n)]) ∧ Below W2.heap.size W2 w') := NW.out.mono fun e w' hh => by
      unfold NewE at hh
      rw [if_neg hc0] at hh
      exact hh
    have q8 : (checkN n == 0) = false := by simpa using hc0
    have q9 : (checkN n != 0) = true := by simpa using hc0
    have q7 : (checkN n != checkN n) = false := by simp
    generalize checkN n = cd at *
    clear NW NM
    go_wp2_with (first
      | (go_at_call 12; (with_reducible refine NO.out.mono ?_); rintro e W3 ⟨rfl, b3⟩; have G3 := hiddenN (G2.out.below b3); have L3 := hiddenN (L2.out.trans (b3.mono L2.out.size)); clear b3 x0 x1; have g0 := G3.out.cell (k := 0) rfl; have g1 := G3.out.cell (k := 1) rfl; simp only [List.getElem_toArray, List.getElem_cons_zero, List.getElem_cons_succ] at g0 g1; have CD3 := hiddenN (CD.out _ L3.out))
      | (go_at_call 9; (with_reducible refine CD3.out.mono ?_); rintro e W4 ⟨rfl, b4⟩; have LZ := hiddenN (L3.out.trans (b4.mono L3.out.size)); clear b4)
      | (go_at_call 14; (with_reducible refine (AW.out _).mono ?_); rintro e w9 ⟨rfl, b9⟩; have L9 := hiddenN (LZ.out.trans (b9.mono LZ.out.size)); clear b9))
    go_ret
    exact ⟨by first | rfl | simp, L9.out⟩
end Go.Proofs.Ytancphohpedigaa
