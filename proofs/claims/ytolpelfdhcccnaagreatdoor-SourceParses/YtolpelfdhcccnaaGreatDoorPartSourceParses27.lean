/- Texts of one chain, laid one behind the other. -/
import Derived.Test.YtolpelfdhcccnaaGreatDoorPartSourceParses26
import Derived.Test.YtolpelfdhcccnaaGreatDoorPartSourceParses20
import Derived.Deep.Cut
namespace Go.Proofs.YtolpelfdhcccnaaGreatDoor
open Go.ChangeShapes Go.WideShapes Go.ChangeAt Go.RowKit
def nsF (ts : List Tok) (b : Bool) (q : Nat) : List Int := if b = true then numsR ts q else []
theorem rdnumbers_det (P : Nat) (v : Value) (ts : List Tok) (q : Nat) (b : Bool) (W : World) (h : Rdr P v ts q b W) (hi : q < ts.length) (hl : ts.length ≤ 2000000) (hE : Ended ts) :
    Calls Tryz.prog 95 #[.pointer (some ⟨P, 0, none⟩)] W fun e w' => ∃ (a : Option Addr) (c : Nat), e = .returned (.slice a (nsF ts b q).length c) ∧ Ints_k W.heap.size w' (.slice a (nsF ts b q).length c) (nsF ts b q) ∧ RGo P v ts (q + (nsF ts b q).length) b W w' := by
  cases b with
  | false => exact (rdnumbers_off P v ts q W h).mono fun _ w' ⟨h1, h2⟩ => ⟨none, 0, h1, World.ownsRow_nil _ _ _ _, h2⟩
  | true => exact (rdnumbers_on P v ts q W h hE hi hl).mono fun _ w' ⟨r, h1, h2, h3, _⟩ => by { obtain ⟨a, c, rfl⟩ := h2.shape; exact ⟨a, c, h1, h2, h3⟩ }
theorem nsF_lt {ts : List Tok} (hE : Ended ts) (b : Bool) {q : Nat} (hi : q < ts.length) : q + (nsF ts b q).length < ts.length := by
  cases b with
  | false => exact hi
  | true => exact nums_lt hE ts.length q (by omega) hi
theorem nsF_follows (ts : List Tok) (b : Bool) (q : Nat) : Follows b q (fun j => (some (numsR ts j), j + (numsR ts j).length)) (nsF ts b q) b (q + (nsF ts b q).length) := by
  cases b with
  | false => exact Or.inr (Or.inr ⟨rfl, rfl, rfl⟩)
  | true => exact Or.inl ⟨rfl, rfl, rfl⟩
/-- How the document's item ends. -/
def RItemE (P : Nat) (v : Value) (ts : List Tok) (q : Nat) (W : World) (e : Ending) (w' : World) : Prop :=
  ∃ (x : Itm_k) (a : Option Addr) (c : Nat) (b' : Bool) (q' : Nat), e = .returned (.agg (itC_k x.kind x.name x.tag (.slice a x.nums.length c) x.frm x.to x.place)) ∧ Ints_k W.heap.size w' (.slice a x.nums.length c) x.nums ∧ Follows true q (itemR ts) x b' q' ∧ RGo P v ts q' b' W w' ∧ q' < ts.length
/-! ### An item, read on -/
theorem follows_body {ts : List Tok} {q : Nat} {x : Itm_k} {b b' : Bool} {j j' : Nat} (h : Follows true q (bodyR ts) x b j) (h2 : Follows b j (textR ts [59]) () b' j') : Follows true q (itemR ts) x b' j' :=
  (h.next (g := fun x j => andThen (textR ts [59] j) fun _ k => (some x, k)) (h2.done fun _ => x)).of rfl
theorem textR_yes {ts : List Tok} {x : List UInt8} {q : Nat} (h : (nthT ts q).text = x) : textR ts x q = (some (), q + 1) := by unfold textR; rw [if_pos h]
theorem follows_actor {ts : List Tok} {q : Nat} (t : (nthT ts q).text = [97, 99, 116, 111, 114]) {n1 n3 : List UInt8} {b1 b2 b3 : Bool} {j1 j2 j3 : Nat} (h1 : Follows true (q + 1) (nameR ts) n1 b1 j1) (h2 : Follows b1 j1 (textR ts [61]) () b2 j2) (h3 : Follows b2 j2 (nameR ts) n3 b3 j3) :
    Follows true q (bodyR ts) ⟨1, n1, n3, nsF ts b3 j3, noPlc_k, noPlc_k, (nthT ts q).place⟩ b3 (j3 + (nsF ts b3 j3).length) := by
  have hn := nsF_follows ts b3 j3
  have h0 : Follows true q (textR ts [97, 99, 116, 111, 114]) () true (q + 1) := Or.inl ⟨rfl, rfl, textR_yes t⟩
  have := h0.next (g := fun _ j => andThen (nameR ts j) fun n j => andThen (textR ts [61] j) fun _ j => andThen (nameR ts j) fun t j => (some (⟨1, n, t, numsR ts j, noPlc_k, noPlc_k, (nthT ts q).place⟩ : Itm_k), j + (numsR ts j).length)) (h1.next (g := fun n j => andThen (textR ts [61] j) fun _ j => andThen (nameR ts j) fun t j => (some (⟨1, n, t, numsR ts j, noPlc_k, noPlc_k, (nthT ts q).place⟩ : Itm_k), j + (numsR ts j).length)) (h2.next (g := fun _ j => andThen (nameR ts j) fun t j => (some (⟨1, n1, t, numsR ts j, noPlc_k, noPlc_k, (nthT ts q).place⟩ : Itm_k), j + (numsR ts j).length)) (h3.next (g := fun t j => (some (⟨1, n1, t, numsR ts j, noPlc_k, noPlc_k, (nthT ts q).place⟩ : Itm_k), j + (numsR ts j).length)) (c := ⟨1, n1, n3, nsF ts b3 j3, noPlc_k, noPlc_k, (nthT ts q).place⟩) (b2 := b3) (i2 := j3 + (nsF ts b3 j3).length) (by
    cases b3 with
    | false => exact Or.inr (Or.inr ⟨rfl, rfl, rfl⟩)
    | true => exact Or.inl ⟨rfl, rfl, rfl⟩))))
  exact this.of (by show _ = bodyR ts q; unfold bodyR; rw [if_pos t]; rfl)
theorem follows_edge {ts : List Tok} {q : Nat} (t0 : (nthT ts q).text ≠ [97, 99, 116, 111, 114]) (t : (nthT ts q).text = [101, 100, 103, 101]) {p1 p3 : Plc_k} {ns : List Int} {b1 b2 b3 b4 : Bool} {j1 j2 j3 j4 : Nat} (h1 : Follows true (q + 1) (placeR ts) p1 b1 j1) (h2 : Follows b1 j1 (textR ts [45, 62]) () b2 j2) (h3 : Follows b2 j2 (placeR ts) p3 b3 j3) (h4 : Follows b3 j3 (withR ts) ns b4 j4) :
    Follows true q (bodyR ts) ⟨2, [], [], ns, p1, p3, (nthT ts q).place⟩ b4 j4 := by
  have h0 : Follows true q (textR ts [101, 100, 103, 101]) () true (q + 1) := Or.inl ⟨rfl, rfl, textR_yes t⟩
  have := h0.next (g := fun _ j => andThen (placeR ts j) fun f j => andThen (textR ts [45, 62] j) fun _ j => andThen (placeR ts j) fun t j => andThen (withR ts j) fun xs j => (some (⟨2, [], [], xs, f, t, (nthT ts q).place⟩ : Itm_k), j)) (h1.next (g := fun f j => andThen (textR ts [45, 62] j) fun _ j => andThen (placeR ts j) fun t j => andThen (withR ts j) fun xs j => (some (⟨2, [], [], xs, f, t, (nthT ts q).place⟩ : Itm_k), j)) (h2.next (g := fun _ j => andThen (placeR ts j) fun t j => andThen (withR ts j) fun xs j => (some (⟨2, [], [], xs, p1, t, (nthT ts q).place⟩ : Itm_k), j)) (h3.next (g := fun t j => andThen (withR ts j) fun xs j => (some (⟨2, [], [], xs, p1, t, (nthT ts q).place⟩ : Itm_k), j)) (h4.done fun xs => (⟨2, [], [], xs, p1, p3, (nthT ts q).place⟩ : Itm_k)))))
  exact this.of (by show _ = bodyR ts q; unfold bodyR; rw [if_neg t0, if_pos t]; rfl)
theorem follows_in {ts : List Tok} {q : Nat} (t0 : (nthT ts q).text ≠ [97, 99, 116, 111, 114]) (t1 : (nthT ts q).text ≠ [101, 100, 103, 101]) (t : (nthT ts q).text = [105, 110]) {n1 : List UInt8} {p3 : Plc_k} {b1 b2 b3 : Bool} {j1 j2 j3 : Nat} (h1 : Follows true (q + 1) (nameR ts) n1 b1 j1) (h2 : Follows b1 j1 (textR ts [45, 62]) () b2 j2) (h3 : Follows b2 j2 (placeR ts) p3 b3 j3) :
    Follows true q (bodyR ts) ⟨3, n1, [], [], noPlc_k, p3, (nthT ts q).place⟩ b3 j3 := by
  have h0 : Follows true q (textR ts [105, 110]) () true (q + 1) := Or.inl ⟨rfl, rfl, textR_yes t⟩
  have := h0.next (g := fun _ j => andThen (nameR ts j) fun n j => andThen (textR ts [45, 62] j) fun _ j => andThen (placeR ts j) fun t j => (some (⟨3, n, [], [], noPlc_k, t, (nthT ts q).place⟩ : Itm_k), j)) (h1.next (g := fun n j => andThen (textR ts [45, 62] j) fun _ j => andThen (placeR ts j) fun t j => (some (⟨3, n, [], [], noPlc_k, t, (nthT ts q).place⟩ : Itm_k), j)) (h2.next (g := fun _ j => andThen (placeR ts j) fun t j => (some (⟨3, n1, [], [], noPlc_k, t, (nthT ts q).place⟩ : Itm_k), j)) (h3.done fun t => (⟨3, n1, [], [], noPlc_k, t, (nthT ts q).place⟩ : Itm_k))))
  exact this.of (by show _ = bodyR ts q; unfold bodyR; rw [if_neg t0, if_neg t1, if_pos t]; rfl)
theorem follows_out {ts : List Tok} {q : Nat} (t0 : (nthT ts q).text ≠ [97, 99, 116, 111, 114]) (t1 : (nthT ts q).text ≠ [101, 100, 103, 101]) (t2 : (nthT ts q).text ≠ [105, 110]) (t : (nthT ts q).text = [111, 117, 116]) {p1 : Plc_k} {n3 : List UInt8} {b1 b2 b3 : Bool} {j1 j2 j3 : Nat} (h1 : Follows true (q + 1) (placeR ts) p1 b1 j1) (h2 : Follows b1 j1 (textR ts [45, 62]) () b2 j2) (h3 : Follows b2 j2 (nameR ts) n3 b3 j3) :
    Follows true q (bodyR ts) ⟨4, n3, [], [], p1, noPlc_k, (nthT ts q).place⟩ b3 j3 := by
  have h0 : Follows true q (textR ts [111, 117, 116]) () true (q + 1) := Or.inl ⟨rfl, rfl, textR_yes t⟩
  have := h0.next (g := fun _ j => andThen (placeR ts j) fun f j => andThen (textR ts [45, 62] j) fun _ j => andThen (nameR ts j) fun n j => (some (⟨4, n, [], [], f, noPlc_k, (nthT ts q).place⟩ : Itm_k), j)) (h1.next (g := fun f j => andThen (textR ts [45, 62] j) fun _ j => andThen (nameR ts j) fun n j => (some (⟨4, n, [], [], f, noPlc_k, (nthT ts q).place⟩ : Itm_k), j)) (h2.next (g := fun _ j => andThen (nameR ts j) fun n j => (some (⟨4, n, [], [], p1, noPlc_k, (nthT ts q).place⟩ : Itm_k), j)) (h3.done fun n => (⟨4, n, [], [], p1, noPlc_k, (nthT ts q).place⟩ : Itm_k))))
  exact this.of (by show _ = bodyR ts q; unfold bodyR; rw [if_neg t0, if_neg t1, if_neg t2]; rfl)
theorem follows_none {ts : List Tok} {q : Nat} (t0 : (nthT ts q).text ≠ [97, 99, 116, 111, 114]) (t1 : (nthT ts q).text ≠ [101, 100, 103, 101]) (t2 : (nthT ts q).text ≠ [105, 110]) (t3 : (nthT ts q).text ≠ [111, 117, 116]) (x : Itm_k) : Follows true q (bodyR ts) x false q := by
  refine Or.inr (Or.inl ⟨rfl, rfl, ?_⟩)
  unfold bodyR
  rw [if_neg t0, if_neg t1, if_neg t2]
  unfold outR textR
  rw [if_neg t3, then_none]
theorem follows_with {ts : List Tok} {j : Nat} (hw : (nthT ts j).text = [119, 105, 116, 104]) {x : Int} {b' : Bool} {k : Nat} (h : Follows true (j + 1) (numR ts) x b' k) : Follows true j (withR ts) ([x] ++ nsF ts b' k) b' (k + (nsF ts b' k).length) := by
  have := h.next (g := fun x k => (some (x :: numsR ts k), k + (numsR ts k).length)) (c := [x] ++ nsF ts b' k) (b2 := b') (i2 := k + (nsF ts b' k).length) (by
    cases b' with
    | false => exact Or.inr (Or.inr ⟨rfl, rfl, rfl⟩)
    | true => exact Or.inl ⟨rfl, rfl, rfl⟩)
  rcases this with ⟨-, h2, h3⟩ | ⟨-, h2, h3⟩ | ⟨h1, -, -⟩
  · exact Or.inl ⟨rfl, h2, by unfold withR; rw [if_pos hw]; exact h3⟩
  · exact Or.inr (Or.inl ⟨rfl, h2, by unfold withR; rw [if_pos hw]; exact h3⟩)
  · cases h1
theorem follows_less {ts : List Tok} {b : Bool} {j : Nat} (hw : b = true → (nthT ts j).text ≠ [119, 105, 116, 104]) : Follows b j (withR ts) [] b j := by
  cases b with
  | false => exact Or.inr (Or.inr ⟨rfl, rfl, rfl⟩)
  | true => exact Or.inl ⟨rfl, rfl, by unfold withR; rw [if_neg (hw rfl)]⟩
theorem RGo.ownB {P v ts j ok W w1 w2} {row : Option Nat} (h : RGo P v ts j ok W w1) (h0 : ∀ {n : Nat}, W.heap.size ≤ n → v.ownBlock ≠ some n ∧ P ≠ n) (hg : w1.grownBy w2 row) (hr : ∀ k, row = some k → W.heap.size ≤ k) : RGo P v ts j ok W w2 := by
  have ne : ∀ k, k < W.heap.size → some k ≠ row := fun k hk e => by have := hr k e.symm; omega
  have neP : some P ≠ row := fun e => (h0 (hr P e.symm)).2 rfl
  refine ⟨⟨(hg.block P h.par.lt neP).trans h.par.here, ?_⟩, ?_⟩
  · obtain ⟨g', cap', he, hne, hlt', hc⟩ := h.par.row
    exact ⟨g', cap', he, hne, Nat.lt_of_lt_of_le hlt' hg.size, fun k hk => (hc k hk).block (hg.block g' hlt' (fun e => (h0 (hr g' e.symm)).1 (by rw [he]; rfl)))⟩
  · exact ⟨hg.os.trans h.grown.os, hg.tape.trans h.grown.tape, hg.output.trans h.grown.output, Nat.le_trans h.grown.size hg.size, fun k hk hne => (hg.block k (Nat.lt_of_lt_of_le hk h.grown.size) (ne k hk)).trans (h.grown.block k hk hne)⟩
set_option maxRecDepth 100000 in
set_option maxHeartbeats 16000000 in
theorem ritem_any (P : Nat) (v : Value) (ts : List Tok) (q : Nat) (W : World) (h : Rdr P v ts q true W) (hi : q < ts.length) (hl : ts.length ≤ 2000000) (hF : Fine ts) (hE : Ended ts) :
    Calls Tryz.prog 57 #[.pointer (some ⟨P, 0, none⟩)] W (RItemE P v ts q W) := by
  have hb0 : Below W.heap.size W ((W.alloc (.cells #[.int .u8 0, .string ⟨#[]⟩, .string ⟨#[]⟩, .slice none 0 0, .string ⟨#[]⟩, .int .i64 0, .int .i64 0, .string ⟨#[]⟩, .int .i64 0, .int .i64 0, .int .i64 0] 103)).alloc (.cells #[.int .u8 0, .string ⟨#[]⟩, .string ⟨#[]⟩, .slice none 0 0, .string ⟨#[]⟩, .int .i64 0, .int .i64 0, .string ⟨#[]⟩, .int .i64 0, .int .i64 0, .int .i64 0] 103)) := ((Below.refl _ _).alloc (Nat.le_refl _) _).alloc (by simp) _
  have HG0 := hidden (RGo.stay h hb0)
  have HBK : Hid (∀ {n : Nat}, W.heap.size ≤ n → v.ownBlock ≠ some n ∧ P ≠ n) := fun hn => h.blk hn
  have HPW : Hid (P < W.heap.size) := h.lt
  have HR0 : Hid (Blk 103 W.heap.size ((W.alloc (.cells #[.int .u8 0, .string ⟨#[]⟩, .string ⟨#[]⟩, .slice none 0 0, .string ⟨#[]⟩, .int .i64 0, .int .i64 0, .string ⟨#[]⟩, .int .i64 0, .int .i64 0, .int .i64 0] 103)).alloc (.cells #[.int .u8 0, .string ⟨#[]⟩, .string ⟨#[]⟩, .slice none 0 0, .string ⟨#[]⟩, .int .i64 0, .int .i64 0, .string ⟨#[]⟩, .int .i64 0, .int .i64 0, .int .i64 0] 103)) #[.int .u8 0, .string ⟨#[]⟩, .string ⟨#[]⟩, .slice none 0 0, .string ⟨#[]⟩, .int .i64 0, .int .i64 0, .string ⟨#[]⟩, .int .i64 0, .int .i64 0, .int .i64 0]) := (blk_new 103 W _).below ((Below.refl _ _).alloc (Nat.le_refl _) _)
  have HL0 : Hid (Blk 103 (W.heap.size + 1) ((W.alloc (.cells #[.int .u8 0, .string ⟨#[]⟩, .string ⟨#[]⟩, .slice none 0 0, .string ⟨#[]⟩, .int .i64 0, .int .i64 0, .string ⟨#[]⟩, .int .i64 0, .int .i64 0, .int .i64 0] 103)).alloc (.cells #[.int .u8 0, .string ⟨#[]⟩, .string ⟨#[]⟩, .slice none 0 0, .string ⟨#[]⟩, .int .i64 0, .int .i64 0, .string ⟨#[]⟩, .int .i64 0, .int .i64 0, .int .i64 0] 103)) #[.int .u8 0, .string ⟨#[]⟩, .string ⟨#[]⟩, .slice none 0 0, .string ⟨#[]⟩, .int .i64 0, .int .i64 0, .string ⟨#[]⟩, .int .i64 0, .int .i64 0, .int .i64 0]) := by
    have h1 := blk_new 103 (W.alloc (.cells #[.int .u8 0, .string ⟨#[]⟩, .string ⟨#[]⟩, .slice none 0 0, .string ⟨#[]⟩, .int .i64 0, .int .i64 0, .string ⟨#[]⟩, .int .i64 0, .int .i64 0, .int .i64 0] 103)) #[.int .u8 0, .string ⟨#[]⟩, .string ⟨#[]⟩, .slice none 0 0, .string ⟨#[]⟩, .int .i64 0, .int .i64 0, .string ⟨#[]⟩, .int .i64 0, .int .i64 0, .int .i64 0]
    have h2 : (W.alloc (.cells #[.int .u8 0, .string ⟨#[]⟩, .string ⟨#[]⟩, .slice none 0 0, .string ⟨#[]⟩, .int .i64 0, .int .i64 0, .string ⟨#[]⟩, .int .i64 0, .int .i64 0, .int .i64 0] 103)).heap.size = W.heap.size + 1 := by simp
    rw [h2] at h1
    exact h1
  have hp := h.below hb0
  have hc0 := hp.c0
  have hc1 := hp.c1
  have hPl := hp.lt
  obtain ⟨g, cap, hv, -, hgl, hc⟩ := hp.row
  have a3 := (hc q hi).c3
  have hin := hi
  have hll : (ts.length : Int) ≤ 2000000 := by omega
  have hqI : (q : Int) < 2000000 := by omega
  have HISK : Hid (∀ w1 x, Key 1 x → Rdr P v ts q true w1 → Calls Tryz.prog 56 #[.pointer (some ⟨P, 0, none⟩), .int .u8 1, .string (str x)] w1 fun e w' => e = .returned (.bool (decide ((nthT ts q).text = x))) ∧ Below w1.heap.size w1 w') := fun w1 x hk h1 => ris_key P v ts q true w1 h1 hi hl hF 1 x hk
  have HQ1 : Hid (∀ x, x ≠ [] → (nthT ts q).text = x → q + 1 < ts.length) := fun x hx e => hE.text_lt hi hx e
  have HW : Hid (∀ w1 q1 b1, Rdr P v ts q1 b1 w1 → q1 < ts.length → Calls Tryz.prog 55 #[.pointer (some ⟨P, 0, none⟩)] w1 fun e w' => ∃ (n : List UInt8) (b' : Bool) (q' : Nat), e = .returned (.string (str n)) ∧ Follows b1 q1 (nameR ts) n b' q' ∧ RGo P v ts q' b' w1 w' ∧ q' < ts.length) := fun w1 q1 b1 h1 h2 => rdword_any P v ts q1 b1 w1 h1 h2 hl hE
  have HP : Hid (∀ w1 q1 b1, Rdr P v ts q1 b1 w1 → q1 < ts.length → Calls Tryz.prog 96 #[.pointer (some ⟨P, 0, none⟩)] w1 fun e w' => ∃ (p : Plc_k) (b' : Bool) (q' : Nat), e = .returned (.agg #[.string (str p.name), .int .i64 p.port, .int .i64 p.place]) ∧ Follows b1 q1 (placeR ts) p b' q' ∧ RGo P v ts q' b' w1 w' ∧ q' < ts.length) := fun w1 q1 b1 h1 h2 => rdplace_any P v ts q1 b1 w1 h1 h2 hl hF hE
  have HNS : Hid (∀ w1 q1 b1, Rdr P v ts q1 b1 w1 → q1 < ts.length → Calls Tryz.prog 95 #[.pointer (some ⟨P, 0, none⟩)] w1 fun e w' => ∃ (a : Option Addr) (c : Nat), e = .returned (.slice a (nsF ts b1 q1).length c) ∧ Ints_k w1.heap.size w' (.slice a (nsF ts b1 q1).length c) (nsF ts b1 q1) ∧ RGo P v ts (q1 + (nsF ts b1 q1).length) b1 w1 w') := fun w1 q1 b1 h1 h2 => rdnumbers_det P v ts q1 b1 w1 h1 h2 hl hE
  have HNL : Hid (∀ b1 q1, q1 < ts.length → q1 + (nsF ts b1 q1).length < ts.length) := fun b1 q1 h1 => nsF_lt hE b1 h1
  have HNU : Hid (∀ w1 q1 b1, Rdr P v ts q1 b1 w1 → q1 < ts.length → Calls Tryz.prog 97 #[.pointer (some ⟨P, 0, none⟩)] w1 fun e w' => ∃ (n : Int) (b' : Bool) (q' : Nat), e = .returned (.int .i64 n) ∧ Follows b1 q1 (numR ts) n b' q' ∧ RGo P v ts q' b' w1 w' ∧ q' < ts.length) := fun w1 q1 b1 h1 h2 => rdnumber_any P v ts q1 b1 w1 h1 h2 hl hE
  have HWI : Hid (∀ w1 q1, Rdr P v ts q1 true w1 → q1 < ts.length → Calls Tryz.prog 56 #[.pointer (some ⟨P, 0, none⟩), .int .u8 1, .string ⟨#[119, 105, 116, 104]⟩] w1 fun e w' => e = .returned (.bool (decide ((nthT ts q1).text = [119, 105, 116, 104]))) ∧ Below w1.heap.size w1 w') := fun w1 q1 h1 h2 => ris_key P v ts q1 true w1 h1 h2 hl hF 1 [119, 105, 116, 104] ⟨by decide, Or.inl ⟨rfl, by decide⟩⟩
  have HTL : Hid (∀ q1, q1 < ts.length → (nthT ts q1).text = [119, 105, 116, 104] → q1 + 1 < ts.length) := fun q1 h1 h2 => hE.text_lt h1 (by decide) h2
  have HMQ : Hid (∀ w1 q1 b1, Rdr P v ts q1 b1 w1 → q1 < ts.length → Calls Tryz.prog 54 #[.pointer (some ⟨P, 0, none⟩), .int .u8 3, .string ⟨#[61]⟩] w1 fun e w' => e = .returned (.tuple #[]) ∧ ∃ b' q', Follows b1 q1 (textR ts [61]) () b' q' ∧ RGo P v ts q' b' w1 w' ∧ q' < ts.length) := fun w1 q1 b1 h1 h2 => must_any P v ts q1 b1 w1 h1 h2 hl hF hE 3 [61] ⟨by decide, Or.inr ⟨rfl, by decide⟩⟩
  have HMA : Hid (∀ w1 q1 b1, Rdr P v ts q1 b1 w1 → q1 < ts.length → Calls Tryz.prog 54 #[.pointer (some ⟨P, 0, none⟩), .int .u8 3, .string ⟨#[45, 62]⟩] w1 fun e w' => e = .returned (.tuple #[]) ∧ ∃ b' q', Follows b1 q1 (textR ts [45, 62]) () b' q' ∧ RGo P v ts q' b' w1 w' ∧ q' < ts.length) := fun w1 q1 b1 h1 h2 => must_any P v ts q1 b1 w1 h1 h2 hl hF hE 3 [45, 62] ⟨by decide, Or.inr ⟨rfl, by decide⟩⟩
  have HMS : Hid (∀ w1 q1 b1, Rdr P v ts q1 b1 w1 → q1 < ts.length → Calls Tryz.prog 54 #[.pointer (some ⟨P, 0, none⟩), .int .u8 3, .string ⟨#[59]⟩] w1 fun e w' => e = .returned (.tuple #[]) ∧ ∃ b' q', Follows b1 q1 (textR ts [59]) () b' q' ∧ RGo P v ts q' b' w1 w' ∧ q' < ts.length) := fun w1 q1 b1 h1 h2 => must_any P v ts q1 b1 w1 h1 h2 hl hF hE 3 [59] ⟨by decide, Or.inr ⟨rfl, by decide⟩⟩
  unfold RItemE
  subst hv
  clear h hb0 hp hc
  generalize hPL : (nthT ts q).place = pl at *
  generalize hN : ts.length = N at *
  go_enter Tryz.func57, Tryz.ntmps57
  go_wp2
  generalize hW0 : (W.alloc (.cells #[.int .u8 0, .string ⟨#[]⟩, .string ⟨#[]⟩, .slice none 0 0, .string ⟨#[]⟩, .int .i64 0, .int .i64 0, .string ⟨#[]⟩, .int .i64 0, .int .i64 0, .int .i64 0] 103)).alloc (.cells #[.int .u8 0, .string ⟨#[]⟩, .string ⟨#[]⟩, .slice none 0 0, .string ⟨#[]⟩, .int .i64 0, .int .i64 0, .string ⟨#[]⟩, .int .i64 0, .int .i64 0, .int .i64 0] 103) = W0 at *
  refine wp_region_said 11 (fun i u v => match i with
      | 0 => v = .pointer (some ⟨P, 0, none⟩)
      | 1 => v = .pointer (some ⟨P, 0, none⟩)
      | 2 => v = .pointer (some ⟨P, 0, none⟩)
      | 3 => v = .slice (some ⟨g, 0, none⟩) N cap
      | 4 => v = .pointer (some ⟨P, 0, none⟩)
      | 5 => v = .pointer (some ⟨P, 0, none⟩)
      | 6 => v = .pointer (some ⟨P, 1, none⟩)
      | 7 => v = .int .i64 (q : Int)
      | 8 => v = .pointer (some ⟨g, q * 4, none⟩)
      | 9 => v = .pointer (some ⟨g, q * 4 + 3, none⟩)
      | 10 => v = .int .i64 pl
      | _ => True) (by kernel_rfl) (by kernel_rfl) (by kernel_rfl) (by kernel_rfl) ?_ ?_ ?_
  · intro i w v w' h hb
    match i, h with
    | 0, h => exact h
    | 1, h => exact h
    | 2, h => exact h
    | 3, h => exact h
    | 4, h => exact h
    | 5, h => exact h
    | 6, h => exact h
    | 7, h => exact h
    | 8, h => exact h
    | 9, h => exact h
    | 10, h => exact h
    | _ + 11, _ => trivial
  · intro i o ρ w' hi ho hb hc hf hfr hdep
    have LK : ∀ {a : Addr} {x : Value}, a.block < W0.heap.size → W0.cell? a = some x → w'.cell? a = some x := fun h1 h2 => (hb.cell h1).trans h2
    have k0 := LK hPl hc0
    have k1 := LK hPl hc1
    have k5 := LK hgl a3
    match i, hi with
    | 0, _ =>
      simp only [gTA, gCZ, gSI] at ho
      subst ho
      have ts : ρ (.tmp 0) = .pointer (some ⟨P, 0, none⟩) := hfr 0 (by kernel_rfl)
      simp [go_sem, ts]
      exact ⟨Below.refl _ _, rfl⟩
    | 1, _ =>
      simp only [gTA, gCZ, gCS, gSI] at ho
      subst ho
      have ts : ρ (.tmp 5) = .pointer (some ⟨P, 0, none⟩) := hdep 0 5 (by kernel_rfl) (by kernel_rfl)
      simp [go_sem, ts]
      exact ⟨Below.refl _ _, rfl⟩
    | 2, _ =>
      simp only [gTA, gCZ, gCS, gSI] at ho
      subst ho
      have ts : ρ (.tmp 6) = .pointer (some ⟨P, 0, none⟩) := hdep 1 6 (by kernel_rfl) (by kernel_rfl)
      simp [go_sem, ts]
      exact ⟨Below.refl _ _, rfl⟩
    | 3, _ =>
      simp only [gTA, gCZ, gCS, gSI] at ho
      subst ho
      have ts : ρ (.tmp 7) = .pointer (some ⟨P, 0, none⟩) := hdep 2 7 (by kernel_rfl) (by kernel_rfl)
      simp [go_sem, ts, k0]
      exact ⟨Below.refl _ _, rfl⟩
    | 4, _ =>
      simp only [gTA, gCZ, gCS, gSI] at ho
      subst ho
      have ts : ρ (.tmp 0) = .pointer (some ⟨P, 0, none⟩) := hfr 0 (by kernel_rfl)
      simp [go_sem, ts]
      exact ⟨Below.refl _ _, rfl⟩
    | 5, _ =>
      simp only [gTA, gCZ, gCS, gSI] at ho
      subst ho
      have ts : ρ (.tmp 9) = .pointer (some ⟨P, 0, none⟩) := hdep 4 9 (by kernel_rfl) (by kernel_rfl)
      simp [go_sem, ts]
      exact ⟨Below.refl _ _, rfl⟩
    | 6, _ =>
      simp only [gTA, gCZ, gCS, gSI] at ho
      subst ho
      have ts : ρ (.tmp 10) = .pointer (some ⟨P, 0, none⟩) := hdep 5 10 (by kernel_rfl) (by kernel_rfl)
      simp [go_sem, ts]
      exact ⟨Below.refl _ _, rfl⟩
    | 7, _ =>
      simp only [gTA, gCZ, gCS, gSI] at ho
      subst ho
      have ts : ρ (.tmp 11) = .pointer (some ⟨P, 1, none⟩) := hdep 6 11 (by kernel_rfl) (by kernel_rfl)
      simp [go_sem, ts, k1]
      exact ⟨Below.refl _ _, rfl⟩
    | 8, _ =>
      simp only [gTA, gCZ, gCS, gSI] at ho
      subst ho
      have t1 : ρ (.tmp 8) = .slice (some ⟨g, 0, none⟩) N cap := hdep 3 8 (by kernel_rfl) (by kernel_rfl)
      have t2 : ρ (.tmp 12) = .int .i64 (q : Int) := hdep 7 12 (by kernel_rfl) (by kernel_rfl)
      simp [go_sem, t1, t2, hin]
      exact ⟨Below.refl _ _, rfl⟩
    | 9, _ =>
      simp only [gTA, gCZ, gCS, gSI] at ho
      subst ho
      have ts : ρ (.tmp 13) = .pointer (some ⟨g, q * 4, none⟩) := hdep 8 13 (by kernel_rfl) (by kernel_rfl)
      simp [go_sem, ts]
      exact ⟨Below.refl _ _, rfl⟩
    | 10, _ =>
      simp only [gTA, gCZ, gCS, gSI] at ho
      subst ho
      have ts : ρ (.tmp 14) = .pointer (some ⟨g, q * 4 + 3, none⟩) := hdep 9 14 (by kernel_rfl) (by kernel_rfl)
      simp [go_sem, ts, k5]
      exact ⟨Below.refl _ _, rfl⟩
  · intro V w9 q9 hS
    have e0 : V 0 = .pointer (some ⟨P, 0, none⟩) := hS 0 (by decide)
    have e1 : V 1 = .pointer (some ⟨P, 0, none⟩) := hS 1 (by decide)
    have e2 : V 2 = .pointer (some ⟨P, 0, none⟩) := hS 2 (by decide)
    have e3 : V 3 = .slice (some ⟨g, 0, none⟩) N cap := hS 3 (by decide)
    have e4 : V 4 = .pointer (some ⟨P, 0, none⟩) := hS 4 (by decide)
    have e5 : V 5 = .pointer (some ⟨P, 0, none⟩) := hS 5 (by decide)
    have e6 : V 6 = .pointer (some ⟨P, 1, none⟩) := hS 6 (by decide)
    have e7 : V 7 = .int .i64 (q : Int) := hS 7 (by decide)
    have e8 : V 8 = .pointer (some ⟨g, q * 4, none⟩) := hS 8 (by decide)
    have e9 : V 9 = .pointer (some ⟨g, q * 4 + 3, none⟩) := hS 9 (by decide)
    have e10 : V 10 = .int .i64 pl := hS 10 (by decide)
    simp only [List.drop_succ_cons, List.drop_zero, List.take_succ_cons, List.take_zero, puts, e0, e1, e2, e3, e4, e5, e6, e7, e8, e9, e10]
    clear hS e0 e1 e2 e3 e4 e5 e6 e7 e8 e9 e10 V
    have HIW : Hid (W.heap.size ≤ W.heap.size + 1) := Nat.le_succ _
    have HRI : Hid (W.heap.size ≠ W.heap.size + 1) := by show _ ≠ _; omega
    generalize hIE : W.heap.size + 1 = I at *
    have GA0 := hidden ((HG0.out.later q9).put (k := 10) (HBK.out HIW.out) HIW.out (.int .i64 pl))
    have B0a := HL0.out.below q9
    have BA0 : Hid (Blk 103 I (w9.setCell ⟨I, 10, none⟩ (.int .i64 pl)) (itC_k 0 [] [] (.slice none 0 0) noPlc_k noPlc_k pl)) := B0a.set 10 (.int .i64 pl)
    have RA0 := hidden ((HR0.out.below q9).other (m := I) (k := 10) HRI.out (.int .i64 pl))
    have a10 := B0a.cell (k := 10) rfl
    have af10 := B0a.frozen 10
    clear B0a q9 hc0 hc1 a3 HL0 HR0 HG0
    have HPI : Hid (P < I + 1) := by have := HPW.out; show _ < _; omega
    have HRJ : Hid (W.heap.size < I + 1) := by show _ < _; omega
    have HIJ : Hid (W.heap.size ≤ I + 1) := by show _ ≤ _; omega
    by_cases t0 : (nthT ts q).text = [97, 99, 116, 111, 114]
    · skip
      have HS0 : Hid (∀ w1, Rdr P _ ts q true w1 → Calls Tryz.prog 56 #[.pointer (some ⟨P, 0, none⟩), .int .u8 1, .string ⟨#[97, 99, 116, 111, 114]⟩] w1 fun e w' => e = .returned (.bool true) ∧ Below w1.heap.size w1 w') := fun w1 h1 => by { have := HISK.out w1 [97, 99, 116, 111, 114] ⟨by decide, Or.inl ⟨rfl, by decide⟩⟩ h1; rw [decide_eq_true t0] at this; exact this }
      have HEN : Hid (∀ n1 b1 j1 b2 j2 n3 b3 j3 b5 j5, Follows true (q + 1) (nameR ts) n1 b1 j1 → Follows b1 j1 (textR ts [61]) () b2 j2 → Follows b2 j2 (nameR ts) n3 b3 j3 → Follows b3 (j3 + (nsF ts b3 j3).length) (textR ts [59]) () b5 j5 → Follows true q (itemR ts) ⟨1, n1, n3, nsF ts b3 j3, noPlc_k, noPlc_k, pl⟩ b5 j5) := fun _ _ _ _ _ _ _ _ _ _ h1 h2 h3 h5 => by rw [← hPL]; exact follows_body (follows_actor t0 h1 h2 h3) h5
      have hq1 : q + 1 < N := HQ1.out _ (by decide) t0
      clear hPL t0
      go_wp2_with (first
        | (go_at_call 54; (with_reducible refine (HMS.out _ _ _ G4.out.par hj4).mono ?_); rintro e wc ⟨rfl, b5, j5, F5, hg, hj5⟩; have GC := hidden (G4.out.trans hg); have BC := B4.out.grown hg.grown (fun e => (HBK.out HIW.out).2 (Option.some.inj e).symm); have RC := R4.out.grown hg.grown (fun e => (HBK.out (Nat.le_refl W.heap.size)).2 (Option.some.inj e).symm); have NC := hidden (N4.out.grown hg.grown HPI.out); have c0 : wc.cell? ⟨I, 0, none⟩ = some (.int .u8 1) := BC.cell (k := 0) rfl; have r0 : wc.cell? ⟨W.heap.size, 0, none⟩ = some (.int .u8 0) := RC.cell (k := 0) rfl; have f0 := RC.frozen 0; have c1 : wc.cell? ⟨I, 1, none⟩ = some (.string (str n1)) := BC.cell (k := 1) rfl; have r1 : wc.cell? ⟨W.heap.size, 1, none⟩ = some (.string ⟨#[]⟩) := RC.cell (k := 1) rfl; have f1 := RC.frozen 1; have c2 : wc.cell? ⟨I, 2, none⟩ = some (.string (str n3)) := BC.cell (k := 2) rfl; have r2 : wc.cell? ⟨W.heap.size, 2, none⟩ = some (.string ⟨#[]⟩) := RC.cell (k := 2) rfl; have f2 := RC.frozen 2; have c3 : wc.cell? ⟨I, 3, none⟩ = some (.slice aN (nsF ts b3 j3).length cN) := BC.cell (k := 3) rfl; have r3 : wc.cell? ⟨W.heap.size, 3, none⟩ = some (.slice none 0 0) := RC.cell (k := 3) rfl; have f3 := RC.frozen 3; have c4 : wc.cell? ⟨I, 4, none⟩ = some (.string ⟨#[]⟩) := BC.cell (k := 4) rfl; have r4 : wc.cell? ⟨W.heap.size, 4, none⟩ = some (.string ⟨#[]⟩) := RC.cell (k := 4) rfl; have f4 := RC.frozen 4; have c5 : wc.cell? ⟨I, 5, none⟩ = some (.int .i64 0) := BC.cell (k := 5) rfl; have r5 : wc.cell? ⟨W.heap.size, 5, none⟩ = some (.int .i64 0) := RC.cell (k := 5) rfl; have f5 := RC.frozen 5; have c6 : wc.cell? ⟨I, 6, none⟩ = some (.int .i64 0) := BC.cell (k := 6) rfl; have r6 : wc.cell? ⟨W.heap.size, 6, none⟩ = some (.int .i64 0) := RC.cell (k := 6) rfl; have f6 := RC.frozen 6; have c7 : wc.cell? ⟨I, 7, none⟩ = some (.string ⟨#[]⟩) := BC.cell (k := 7) rfl; have r7 : wc.cell? ⟨W.heap.size, 7, none⟩ = some (.string ⟨#[]⟩) := RC.cell (k := 7) rfl; have f7 := RC.frozen 7; have c8 : wc.cell? ⟨I, 8, none⟩ = some (.int .i64 0) := BC.cell (k := 8) rfl; have r8 : wc.cell? ⟨W.heap.size, 8, none⟩ = some (.int .i64 0) := RC.cell (k := 8) rfl; have f8 := RC.frozen 8; have c9 : wc.cell? ⟨I, 9, none⟩ = some (.int .i64 0) := BC.cell (k := 9) rfl; have r9 : wc.cell? ⟨W.heap.size, 9, none⟩ = some (.int .i64 0) := RC.cell (k := 9) rfl; have f9 := RC.frozen 9; have c10 : wc.cell? ⟨I, 10, none⟩ = some (.int .i64 pl) := BC.cell (k := 10) rfl; have r10 : wc.cell? ⟨W.heap.size, 10, none⟩ = some (.int .i64 0) := RC.cell (k := 10) rfl; have f10 := RC.frozen 10; clear BC RC hg)
        | (go_at_call 95; (with_reducible refine (HNS.out _ _ _ G3.out.par hj3).mono ?_); rintro e w4 ⟨aN, cN, rfl, hin4, hg⟩; have hj4 := HNL.out b3 j3 hj3; have Bk := B3.out.grown hg.grown (fun e => (HBK.out HIW.out).2 (Option.some.inj e).symm); have Rk := R3.out.grown hg.grown (fun e => (HBK.out (Nat.le_refl W.heap.size)).2 (Option.some.inj e).symm); have c4_3 := Bk.cell (k := 3) rfl; have f4_3 := Bk.frozen 3; have G4 := hidden ((G3.out.trans hg).put (k := 3) (HBK.out HIW.out) HIW.out (.slice aN (nsF ts b3 j3).length cN)); have B4 : Hid (Blk 103 I (w4.setCell ⟨I, 3, none⟩ (.slice aN (nsF ts b3 j3).length cN)) (itC_k 1 n1 n3 (.slice aN (nsF ts b3 j3).length cN) noPlc_k noPlc_k pl)) := (Bk.set 3 (.slice aN (nsF ts b3 j3).length cN)); have R4 : Hid (Blk 103 W.heap.size (w4.setCell ⟨I, 3, none⟩ (.slice aN (nsF ts b3 j3).length cN)) #[.int .u8 0, .string ⟨#[]⟩, .string ⟨#[]⟩, .slice none 0 0, .string ⟨#[]⟩, .int .i64 0, .int .i64 0, .string ⟨#[]⟩, .int .i64 0, .int .i64 0, .int .i64 0]) := (Rk.other HRI.out _); have N4 : Hid (Ints_k (I + 1) (w4.setCell ⟨I, 3, none⟩ (.slice aN (nsF ts b3 j3).length cN)) (.slice aN (nsF ts b3 j3).length cN) (nsF ts b3 j3)) := (hin4.put B3.out.lt).mono B3.out.lt; clear hin4; clear hg Bk Rk)
        | (go_at_call 55; (with_reducible refine (HW.out _ _ _ G2.out.par hj2).mono ?_); rintro e w3 ⟨n3, b3, j3, rfl, F3, hg, hj3⟩; have Bk := B2.out.grown hg.grown (fun e => (HBK.out HIW.out).2 (Option.some.inj e).symm); have Rk := R2.out.grown hg.grown (fun e => (HBK.out (Nat.le_refl W.heap.size)).2 (Option.some.inj e).symm); have c3_2 := Bk.cell (k := 2) rfl; have f3_2 := Bk.frozen 2; have G3 := hidden ((G2.out.trans hg).put (k := 2) (HBK.out HIW.out) HIW.out (.string (str n3))); have B3 : Hid (Blk 103 I (w3.setCell ⟨I, 2, none⟩ (.string (str n3))) (itC_k 1 n1 n3 (.slice none 0 0) noPlc_k noPlc_k pl)) := (Bk.set 2 (.string (str n3))); have R3 : Hid (Blk 103 W.heap.size (w3.setCell ⟨I, 2, none⟩ (.string (str n3))) #[.int .u8 0, .string ⟨#[]⟩, .string ⟨#[]⟩, .slice none 0 0, .string ⟨#[]⟩, .int .i64 0, .int .i64 0, .string ⟨#[]⟩, .int .i64 0, .int .i64 0, .int .i64 0]) := (Rk.other HRI.out _); clear hg Bk Rk)
        | (go_at_call 54; (with_reducible refine (HMQ.out _ _ _ G1.out.par hj1).mono ?_); rintro e w2 ⟨rfl, b2, j2, F2, hg, hj2⟩; have Bk := B1.out.grown hg.grown (fun e => (HBK.out HIW.out).2 (Option.some.inj e).symm); have Rk := R1.out.grown hg.grown (fun e => (HBK.out (Nat.le_refl W.heap.size)).2 (Option.some.inj e).symm); have G2 := hidden (G1.out.trans hg); have B2 : Hid (Blk 103 I w2 (itC_k 1 n1 [] (.slice none 0 0) noPlc_k noPlc_k pl)) := Bk; have R2 : Hid (Blk 103 W.heap.size w2 #[.int .u8 0, .string ⟨#[]⟩, .string ⟨#[]⟩, .slice none 0 0, .string ⟨#[]⟩, .int .i64 0, .int .i64 0, .string ⟨#[]⟩, .int .i64 0, .int .i64 0, .int .i64 0]) := Rk; clear hg Bk Rk)
        | (go_at_call 55; (with_reducible refine (HW.out _ _ _ G0.out.par hq1).mono ?_); rintro e w1 ⟨n1, b1, j1, rfl, F1, hg, hj1⟩; have Bk := B0.out.grown hg.grown (fun e => (HBK.out HIW.out).2 (Option.some.inj e).symm); have Rk := R0.out.grown hg.grown (fun e => (HBK.out (Nat.le_refl W.heap.size)).2 (Option.some.inj e).symm); have c1_1 := Bk.cell (k := 1) rfl; have f1_1 := Bk.frozen 1; have G1 := hidden ((G0.out.trans hg).put (k := 1) (HBK.out HIW.out) HIW.out (.string (str n1))); have B1 : Hid (Blk 103 I (w1.setCell ⟨I, 1, none⟩ (.string (str n1))) (itC_k 1 n1 [] (.slice none 0 0) noPlc_k noPlc_k pl)) := (Bk.set 1 (.string (str n1))); have R1 : Hid (Blk 103 W.heap.size (w1.setCell ⟨I, 1, none⟩ (.string (str n1))) #[.int .u8 0, .string ⟨#[]⟩, .string ⟨#[]⟩, .slice none 0 0, .string ⟨#[]⟩, .int .i64 0, .int .i64 0, .string ⟨#[]⟩, .int .i64 0, .int .i64 0, .int .i64 0]) := (Rk.other HRI.out _); clear hg Bk Rk)
        | (go_at_call 56; (with_reducible refine (HS0.out _ GA0.out.par).mono ?_); rintro e u1 ⟨rfl, hb⟩; have GA1 := hidden (GA0.out.later hb); have BA1 := hidden (BA0.out.below hb); have RA1 := hidden (RA0.out.below hb); have p1 := GA1.out.par.c1; have pf1 := GA1.out.par.fz 1; have Bq : Blk 103 I (u1.setCell ⟨P, 1, none⟩ (.int .i64 ((q : Int) + 1))) (itC_k 0 [] [] (.slice none 0 0) noPlc_k noPlc_k pl) := BA1.out.other (fun e => (HBK.out HIW.out).2 e.symm) _; have d0 := Bq.cell (k := 0) rfl; have df0 := Bq.frozen 0; have G0 : Hid (RGo P _ ts (q + 1) true W ((u1.setCell ⟨P, 1, none⟩ (.int .i64 ((q : Int) + 1))).setCell ⟨I, 0, none⟩ (.int .u8 1))) := ((GA1.out.trans (GA1.out.par.setAt (q + 1))).put (k := 0) (HBK.out HIW.out) HIW.out (.int .u8 1)); have B0 : Hid (Blk 103 I ((u1.setCell ⟨P, 1, none⟩ (.int .i64 ((q : Int) + 1))).setCell ⟨I, 0, none⟩ (.int .u8 1)) (itC_k 1 [] [] (.slice none 0 0) noPlc_k noPlc_k pl)) := Bq.set 0 (.int .u8 1); have R0 : Hid (Blk 103 W.heap.size ((u1.setCell ⟨P, 1, none⟩ (.int .i64 ((q : Int) + 1))).setCell ⟨I, 0, none⟩ (.int .u8 1)) #[.int .u8 0, .string ⟨#[]⟩, .string ⟨#[]⟩, .slice none 0 0, .string ⟨#[]⟩, .int .i64 0, .int .i64 0, .string ⟨#[]⟩, .int .i64 0, .int .i64 0, .int .i64 0]) := (RA1.out.other (fun e => (HBK.out (Nat.le_refl W.heap.size)).2 e.symm) _).other HRI.out _; clear Bq; clear hb))
      exact bodyPost_ret (v := .agg (itC_k 1 n1 n3 (.slice aN (nsF ts b3 j3).length cN) noPlc_k noPlc_k pl)) (by simp [results, Tryz.results57, go_sem, r0, r1, r2, r3, r4, r5, r6, r7, r8, r9, r10, itC_k, noPlc_k]; rfl) rfl ⟨⟨1, n1, n3, nsF ts b3 j3, noPlc_k, noPlc_k, pl⟩, aN, cN, b5, j5, rfl, ((((((((((((NC.out.put HRJ.out).put HRJ.out).put HRJ.out).put HRJ.out).put HRJ.out).put HRJ.out).put HRJ.out).put HRJ.out).put HRJ.out).put HRJ.out).put HRJ.out)).mono HIJ.out, HEN.out _ _ _ _ _ _ _ _ _ _ F1 F2 F3 F5, (((((((((((GC.out.put (HBK.out (Nat.le_refl W.heap.size)) (Nat.le_refl _) _).put (HBK.out (Nat.le_refl W.heap.size)) (Nat.le_refl _) _).put (HBK.out (Nat.le_refl W.heap.size)) (Nat.le_refl _) _).put (HBK.out (Nat.le_refl W.heap.size)) (Nat.le_refl _) _).put (HBK.out (Nat.le_refl W.heap.size)) (Nat.le_refl _) _).put (HBK.out (Nat.le_refl W.heap.size)) (Nat.le_refl _) _).put (HBK.out (Nat.le_refl W.heap.size)) (Nat.le_refl _) _).put (HBK.out (Nat.le_refl W.heap.size)) (Nat.le_refl _) _).put (HBK.out (Nat.le_refl W.heap.size)) (Nat.le_refl _) _).put (HBK.out (Nat.le_refl W.heap.size)) (Nat.le_refl _) _).put (HBK.out (Nat.le_refl W.heap.size)) (Nat.le_refl _) _), hj5⟩
    have HS0 : Hid (∀ w1, Rdr P _ ts q true w1 → Calls Tryz.prog 56 #[.pointer (some ⟨P, 0, none⟩), .int .u8 1, .string ⟨#[97, 99, 116, 111, 114]⟩] w1 fun e w' => e = .returned (.bool false) ∧ Below w1.heap.size w1 w') := fun w1 h1 => by { have := HISK.out w1 [97, 99, 116, 111, 114] ⟨by decide, Or.inl ⟨rfl, by decide⟩⟩ h1; rw [decide_eq_false t0] at this; exact this }
    by_cases t1 : (nthT ts q).text = [101, 100, 103, 101]
    · skip
      have HS1 : Hid (∀ w1, Rdr P _ ts q true w1 → Calls Tryz.prog 56 #[.pointer (some ⟨P, 0, none⟩), .int .u8 1, .string ⟨#[101, 100, 103, 101]⟩] w1 fun e w' => e = .returned (.bool true) ∧ Below w1.heap.size w1 w') := fun w1 h1 => by { have := HISK.out w1 [101, 100, 103, 101] ⟨by decide, Or.inl ⟨rfl, by decide⟩⟩ h1; rw [decide_eq_true t1] at this; exact this }
      have HEN : Hid (∀ p1 b1 j1 b2 j2 p3 b3 j3 ns b4 j4 b5 j5, Follows true (q + 1) (placeR ts) p1 b1 j1 → Follows b1 j1 (textR ts [45, 62]) () b2 j2 → Follows b2 j2 (placeR ts) p3 b3 j3 → Follows b3 j3 (withR ts) ns b4 j4 → Follows b4 j4 (textR ts [59]) () b5 j5 → Follows true q (itemR ts) ⟨2, [], [], ns, p1, p3, pl⟩ b5 j5) := fun _ _ _ _ _ _ _ _ _ _ _ _ _ h1 h2 h3 h4 h5 => by rw [← hPL]; exact follows_body (follows_edge t0 t1 h1 h2 h3 h4) h5
      have hq1 : q + 1 < N := HQ1.out _ (by decide) t1
      clear hPL t0 t1
      go_upto_region 16 with (first
        | (go_at_call 96; (with_reducible refine (HP.out _ _ _ G2.out.par hj2).mono ?_); rintro e w3 ⟨p3, b3, j3, rfl, F3, hg, hj3⟩; have Bk := B2.out.grown hg.grown (fun e => (HBK.out HIW.out).2 (Option.some.inj e).symm); have Rk := R2.out.grown hg.grown (fun e => (HBK.out (Nat.le_refl W.heap.size)).2 (Option.some.inj e).symm); have c3_7 := Bk.cell (k := 7) rfl; have f3_7 := Bk.frozen 7; have c3_8 := Bk.cell (k := 8) rfl; have f3_8 := Bk.frozen 8; have c3_9 := Bk.cell (k := 9) rfl; have f3_9 := Bk.frozen 9; have G3 := hidden ((((G2.out.trans hg).put (k := 7) (HBK.out HIW.out) HIW.out (.string (str p3.name))).put (k := 8) (HBK.out HIW.out) HIW.out (.int .i64 p3.port)).put (k := 9) (HBK.out HIW.out) HIW.out (.int .i64 p3.place)); have B3 : Hid (Blk 103 I (((w3.setCell ⟨I, 7, none⟩ (.string (str p3.name))).setCell ⟨I, 8, none⟩ (.int .i64 p3.port)).setCell ⟨I, 9, none⟩ (.int .i64 p3.place)) (itC_k 2 [] [] (.slice none 0 0) p1 p3 pl)) := (((Bk.set 7 (.string (str p3.name))).set 8 (.int .i64 p3.port)).set 9 (.int .i64 p3.place)); have R3 : Hid (Blk 103 W.heap.size (((w3.setCell ⟨I, 7, none⟩ (.string (str p3.name))).setCell ⟨I, 8, none⟩ (.int .i64 p3.port)).setCell ⟨I, 9, none⟩ (.int .i64 p3.place)) #[.int .u8 0, .string ⟨#[]⟩, .string ⟨#[]⟩, .slice none 0 0, .string ⟨#[]⟩, .int .i64 0, .int .i64 0, .string ⟨#[]⟩, .int .i64 0, .int .i64 0, .int .i64 0]) := (((Rk.other HRI.out _).other HRI.out _).other HRI.out _); clear hg Bk Rk)
        | (go_at_call 54; (with_reducible refine (HMA.out _ _ _ G1.out.par hj1).mono ?_); rintro e w2 ⟨rfl, b2, j2, F2, hg, hj2⟩; have Bk := B1.out.grown hg.grown (fun e => (HBK.out HIW.out).2 (Option.some.inj e).symm); have Rk := R1.out.grown hg.grown (fun e => (HBK.out (Nat.le_refl W.heap.size)).2 (Option.some.inj e).symm); have G2 := hidden (G1.out.trans hg); have B2 : Hid (Blk 103 I w2 (itC_k 2 [] [] (.slice none 0 0) p1 noPlc_k pl)) := Bk; have R2 : Hid (Blk 103 W.heap.size w2 #[.int .u8 0, .string ⟨#[]⟩, .string ⟨#[]⟩, .slice none 0 0, .string ⟨#[]⟩, .int .i64 0, .int .i64 0, .string ⟨#[]⟩, .int .i64 0, .int .i64 0, .int .i64 0]) := Rk; clear hg Bk Rk)
        | (go_at_call 96; (with_reducible refine (HP.out _ _ _ G0.out.par hq1).mono ?_); rintro e w1 ⟨p1, b1, j1, rfl, F1, hg, hj1⟩; have Bk := B0.out.grown hg.grown (fun e => (HBK.out HIW.out).2 (Option.some.inj e).symm); have Rk := R0.out.grown hg.grown (fun e => (HBK.out (Nat.le_refl W.heap.size)).2 (Option.some.inj e).symm); have c1_4 := Bk.cell (k := 4) rfl; have f1_4 := Bk.frozen 4; have c1_5 := Bk.cell (k := 5) rfl; have f1_5 := Bk.frozen 5; have c1_6 := Bk.cell (k := 6) rfl; have f1_6 := Bk.frozen 6; have G1 := hidden ((((G0.out.trans hg).put (k := 4) (HBK.out HIW.out) HIW.out (.string (str p1.name))).put (k := 5) (HBK.out HIW.out) HIW.out (.int .i64 p1.port)).put (k := 6) (HBK.out HIW.out) HIW.out (.int .i64 p1.place)); have B1 : Hid (Blk 103 I (((w1.setCell ⟨I, 4, none⟩ (.string (str p1.name))).setCell ⟨I, 5, none⟩ (.int .i64 p1.port)).setCell ⟨I, 6, none⟩ (.int .i64 p1.place)) (itC_k 2 [] [] (.slice none 0 0) p1 noPlc_k pl)) := (((Bk.set 4 (.string (str p1.name))).set 5 (.int .i64 p1.port)).set 6 (.int .i64 p1.place)); have R1 : Hid (Blk 103 W.heap.size (((w1.setCell ⟨I, 4, none⟩ (.string (str p1.name))).setCell ⟨I, 5, none⟩ (.int .i64 p1.port)).setCell ⟨I, 6, none⟩ (.int .i64 p1.place)) #[.int .u8 0, .string ⟨#[]⟩, .string ⟨#[]⟩, .slice none 0 0, .string ⟨#[]⟩, .int .i64 0, .int .i64 0, .string ⟨#[]⟩, .int .i64 0, .int .i64 0, .int .i64 0]) := (((Rk.other HRI.out _).other HRI.out _).other HRI.out _); clear hg Bk Rk)
        | (go_at_call 56; (with_reducible refine (HS1.out _ GA1.out.par).mono ?_); rintro e u2 ⟨rfl, hb⟩; have GA2 := hidden (GA1.out.later hb); have BA2 := hidden (BA1.out.below hb); have RA2 := hidden (RA1.out.below hb); have p1 := GA2.out.par.c1; have pf1 := GA2.out.par.fz 1; have Bq : Blk 103 I (u2.setCell ⟨P, 1, none⟩ (.int .i64 ((q : Int) + 1))) (itC_k 0 [] [] (.slice none 0 0) noPlc_k noPlc_k pl) := BA2.out.other (fun e => (HBK.out HIW.out).2 e.symm) _; have d0 := Bq.cell (k := 0) rfl; have df0 := Bq.frozen 0; have G0 : Hid (RGo P _ ts (q + 1) true W ((u2.setCell ⟨P, 1, none⟩ (.int .i64 ((q : Int) + 1))).setCell ⟨I, 0, none⟩ (.int .u8 2))) := ((GA2.out.trans (GA2.out.par.setAt (q + 1))).put (k := 0) (HBK.out HIW.out) HIW.out (.int .u8 2)); have B0 : Hid (Blk 103 I ((u2.setCell ⟨P, 1, none⟩ (.int .i64 ((q : Int) + 1))).setCell ⟨I, 0, none⟩ (.int .u8 2)) (itC_k 2 [] [] (.slice none 0 0) noPlc_k noPlc_k pl)) := Bq.set 0 (.int .u8 2); have R0 : Hid (Blk 103 W.heap.size ((u2.setCell ⟨P, 1, none⟩ (.int .i64 ((q : Int) + 1))).setCell ⟨I, 0, none⟩ (.int .u8 2)) #[.int .u8 0, .string ⟨#[]⟩, .string ⟨#[]⟩, .slice none 0 0, .string ⟨#[]⟩, .int .i64 0, .int .i64 0, .string ⟨#[]⟩, .int .i64 0, .int .i64 0, .int .i64 0]) := (RA2.out.other (fun e => (HBK.out (Nat.le_refl W.heap.size)).2 e.symm) _).other HRI.out _; clear Bq; clear hb)
        | (go_at_call 56; (with_reducible refine (HS0.out _ GA0.out.par).mono ?_); rintro e u1 ⟨rfl, hb⟩; have GA1 := hidden (GA0.out.later hb); have BA1 := hidden (BA0.out.below hb); have RA1 := hidden (RA0.out.below hb); clear hb))
      have k2 := G3.out.par.c2
      by_cases hw : b3 = true ∧ (nthT ts j3).text = [119, 105, 116, 104]
      · obtain ⟨rfl, hw⟩ := hw
        have HS9 : Hid (∀ w1, Rdr P _ ts j3 true w1 → Calls Tryz.prog 56 #[.pointer (some ⟨P, 0, none⟩), .int .u8 1, .string ⟨#[119, 105, 116, 104]⟩] w1 fun e w' => e = .returned (.bool true) ∧ Below w1.heap.size w1 w') := fun w1 h1 => by
          have := HWI.out w1 j3 h1 hj3
          rw [decide_eq_true hw] at this
          exact this
        have hj3' := HTL.out j3 hj3 hw
        have hjI : (j3 : Int) < 2000000 := by omega
        have HFW : Hid (∀ x b6 j6, Follows true (j3 + 1) (numR ts) x b6 j6 → Follows true j3 (withR ts) ([x] ++ nsF ts b6 j6) b6 (j6 + (nsF ts b6 j6).length)) := fun _ _ _ h => follows_with hw h
        clear hw
        obtain ⟨i0, hi', hz0, hz1, hz2⟩ := info_parts Tryz.info3'
        have HI := hidden hi'
        have HI0 := hidden hz0
        have HI1 := hidden hz1
        have HI2 := hidden hz2
        clear hi' hz0 hz1 hz2
        go_wp2_with (first
          | (at_builtin; refine wpList_append_own _ rfl _ _ 60 rfl (I + 1) 3 i0 (.int .i64 0) 1 8 Tryz.underlying60 HI.out HI0.out HI1.out HI2.out rfl (by decide) _ 0 [] rfl (World.ownsRow_nil _ _ _ _) ⟨w7.heap.size, 0, none⟩ 1 1 [.int .i64 x] rfl rfl (int_new w7 _ _) (int_one _) (by decide) (by decide) (by have := B7.out.lt; simp; omega) ?_; intro r' w8 hown hgrow _; have I8 : Ints_k (I + 1) w8 r' ([] ++ [x]) := Ints_k.app hown; obtain ⟨a7, c7, rfl⟩ := I8.shape; have hb8 : Below w7.heap.size w7 w8 := ((Below.refl _ _).alloc (Nat.le_refl _) _).trans ((grown_none hgrow).mono (by simp)); have B8a := B7.out.below hb8; have e3' := B8a.cell (k := 3) rfl; have ef3 := B8a.frozen 3; have G9 := hidden ((G7.out.later hb8).put (k := 3) (HBK.out HIW.out) HIW.out (.slice a7 1 c7)); have B9 : Hid (Blk 103 I (w8.setCell ⟨I, 3, none⟩ (.slice a7 1 c7)) (itC_k 2 [] [] (.slice a7 1 c7) p1 p3 pl)) := B8a.set 3 (.slice a7 1 c7); have R9 : Hid (Blk 103 W.heap.size (w8.setCell ⟨I, 3, none⟩ (.slice a7 1 c7)) #[.int .u8 0, .string ⟨#[]⟩, .string ⟨#[]⟩, .slice none 0 0, .string ⟨#[]⟩, .int .i64 0, .int .i64 0, .string ⟨#[]⟩, .int .i64 0, .int .i64 0, .int .i64 0]) := (R7.out.below hb8).other HRI.out _; have N9 : Hid (Ints_k (I + 1) (w8.setCell ⟨I, 3, none⟩ (.slice a7 1 c7)) (.slice a7 1 c7) [x]) := I8.put (Nat.lt_succ_self I); clear hown hgrow hb8 B8a I8)
          | (go_at_call 97; (with_reducible refine (HNU.out _ _ _ G4.out.par hj3').mono ?_); rintro e w7 ⟨x, b6, j6, rfl, F6, hg, hj6⟩; have G7 := hidden (G4.out.trans hg); have B7 := hidden (B4.out.grown hg.grown (fun e => (HBK.out HIW.out).2 (Option.some.inj e).symm)); have R7 := hidden (R4.out.grown hg.grown (fun e => (HBK.out (Nat.le_refl W.heap.size)).2 (Option.some.inj e).symm)); have e3 : w7.cell? ⟨I, 3, none⟩ = some (.slice none 0 0) := B7.out.cell (k := 3) rfl; clear hg)
          | (go_at_call 56; (with_reducible refine (HS9.out _ G3.out.par).mono ?_); rintro e u6 ⟨rfl, hb⟩; have GD := G3.out.later hb; have p61 := GD.par.c1; have pf61 := GD.par.fz 1; have G4 : Hid (RGo P _ ts (j3 + 1) true W (u6.setCell ⟨P, 1, none⟩ (.int .i64 ((j3 : Int) + 1)))) := GD.trans (GD.par.setAt (j3 + 1)); have B4 : Hid (Blk 103 I (u6.setCell ⟨P, 1, none⟩ (.int .i64 ((j3 : Int) + 1))) (itC_k 2 [] [] (.slice none 0 0) p1 p3 pl)) := (B3.out.below hb).other (fun e => (HBK.out HIW.out).2 e.symm) _; have R4 : Hid (Blk 103 W.heap.size (u6.setCell ⟨P, 1, none⟩ (.int .i64 ((j3 : Int) + 1))) #[.int .u8 0, .string ⟨#[]⟩, .string ⟨#[]⟩, .slice none 0 0, .string ⟨#[]⟩, .int .i64 0, .int .i64 0, .string ⟨#[]⟩, .int .i64 0, .int .i64 0, .int .i64 0]) := (R3.out.below hb).other (fun e => (HBK.out (Nat.le_refl W.heap.size)).2 e.symm) _; clear hb GD))
        generalize hw10 : w8.setCell ⟨I, 3, none⟩ (.slice a7 1 c7) = w10 at *
        clear hw10
        have HN8 : Hid (∀ w1, Rdr P _ ts j6 b6 w1 → Calls Tryz.prog 95 #[.pointer (some ⟨P, 0, none⟩)] w1 fun e w' => ∃ (a : Option Addr) (c : Nat), e = .returned (.slice a (nsF ts b6 j6).length c) ∧ Ints_k w1.heap.size w' (.slice a (nsF ts b6 j6).length c) (nsF ts b6 j6) ∧ RGo P _ ts (j6 + (nsF ts b6 j6).length) b6 w1 w') := fun w1 h1 => HNS.out w1 j6 b6 h1 hj6
        have hj7 := HNL.out b6 j6 hj6
        have HLN : Hid ((nsF ts b6 j6).length ≤ 2000000) := by show _ ≤ _; omega
        have HI10 : Hid (I < w10.heap.size) := B9.out.lt
        have HP10 : Hid (P < w10.heap.size) := by have := HPW.out; have := HI10.out; have := HIW.out; show _ < _; omega
        refine wp_region_gen [3, 4, 6] (fun d i u z => match i with
            | 0 => z = .pointer (some ⟨I, 3, none⟩)
            | 1 => z = .slice a7 1 c7
            | 2 => z = .pointer (some ⟨P, 0, none⟩)
            | 3 => ∃ a c, z = .slice a (nsF ts b6 j6).length c ∧ Ints_k w10.heap.size u (.slice a (nsF ts b6 j6).length c) (nsF ts b6 j6)
            | 4 => d 4 = true ∧ ∃ a c, z = .slice a ([x] ++ nsF ts b6 j6).length c ∧ Ints_k (I + 1) u (.slice a ([x] ++ nsF ts b6 j6).length c) ([x] ++ nsF ts b6 j6)
            | 5 => z = .pointer (some ⟨I, 3, none⟩)
            | 6 => True
            | _ => True) (fun d u => (d 3 = true → RGo P (.slice (some ⟨g, 0, none⟩) N cap) ts (j6 + (nsF ts b6 j6).length) b6 W u) ∧ (d 3 = false → RGo P (.slice (some ⟨g, 0, none⟩) N cap) ts j6 b6 W u) ∧ (d 4 = false → Ints_k (I + 1) u (.slice a7 1 c7) [x]) ∧ (d 6 = true → ∃ ns, Blk 103 I u (itC_k 2 [] [] ns p1 p3 pl) ∧ Ints_k (I + 1) u ns ([x] ++ nsF ts b6 j6)) ∧ (d 6 = false → Blk 103 I u (itC_k 2 [] [] (.slice a7 1 c7) p1 p3 pl)) ∧ w10.heap.size ≤ u.heap.size ∧ Blk 103 W.heap.size u #[.int .u8 0, .string ⟨#[]⟩, .string ⟨#[]⟩, .slice none 0 0, .string ⟨#[]⟩, .int .i64 0, .int .i64 0, .string ⟨#[]⟩, .int .i64 0, .int .i64 0, .int .i64 0]) (by kernel_rfl) (by kernel_rfl) (by kernel_rfl) ?_ ?_ ?_ ?_ ?_ ?_ (by kernel_rfl)
        · intro d i w v w' h hb
          match i, h with
          | 0, h => exact h
          | 1, h => exact h
          | 2, h => exact h
          | 3, h => obtain ⟨a, c, q1, q2⟩ := h; exact ⟨a, c, q1, q2.below hb⟩
          | 4, h => obtain ⟨q0, a, c, q1, q2⟩ := h; exact ⟨q0, a, c, q1, q2.below hb⟩
          | 5, h => exact h
          | 6, h => exact h
          | _ + 7, _ => trivial
        · intro d u u' h hb
          exact ⟨fun h1 => (h.1 h1).later hb, fun h1 => (h.2.1 h1).later hb, fun h1 => (h.2.2.1 h1).below hb, fun h1 => by { obtain ⟨ns, q1, q2⟩ := h.2.2.2.1 h1; exact ⟨ns, q1.below hb, q2.below hb⟩ }, fun h1 => (h.2.2.2.2.1 h1).below hb, Nat.le_trans h.2.2.2.2.2.1 hb.size, h.2.2.2.2.2.2.below hb⟩
        · exact ⟨fun h => absurd h (by decide), fun _ => G9.out, fun _ => N9.out, fun h => absurd h (by decide), fun _ => B9.out, Nat.le_refl _, R9.out⟩
        · intro d i o ρ w' hm ho hf hg hC hcs hfs hfr hdep
          match i, hm, ho, hf, hg, hfr, hdep with
          | 0, _, ho, hf, hg, hfr, hdep =>
            simp only [gTA, gCZ, gSI] at ho
            subst ho
            refine ⟨fun _ => ?_, fun hw => absurd (show true = false from hw) (by decide)⟩
            have ts : ρ (.tmp 3) = .pointer (some ⟨I, 0, none⟩) := hfr 3 (by kernel_rfl)
            simp [go_sem, ts]
            exact ⟨Below.refl _ _, rfl⟩
          | 1, _, ho, hf, hg, hfr, hdep =>
            simp only [gTA, gCZ, gCS, gSI] at ho
            subst ho
            refine ⟨fun _ => ?_, fun hw => absurd (show true = false from hw) (by decide)⟩
            have Bk := hC.2.2.2.2.1 (hf 6 (by decide) (by kernel_rfl))
            have c3 : w'.cell? ⟨I, 3, none⟩ = some (.slice a7 1 c7) := Bk.cell (k := 3) rfl
            have d0 : ρ (.tmp 79) = .pointer (some ⟨I, 3, none⟩) := hdep 0 79 (by kernel_rfl) (by kernel_rfl)
            simp [go_sem, d0, c3]
            exact ⟨Below.refl _ _, rfl⟩
          | 2, _, ho, hf, hg, hfr, hdep =>
            simp only [gTA, gCZ, gCS, gSI] at ho
            subst ho
            refine ⟨fun _ => ?_, fun hw => absurd (show true = false from hw) (by decide)⟩
            have ts : ρ (.tmp 0) = .pointer (some ⟨P, 0, none⟩) := hfr 0 (by kernel_rfl)
            simp [go_sem, ts]
            exact ⟨Below.refl _ _, rfl⟩
          | 3, hm, _, _, _, _, _ => exact absurd hm (by decide)
          | 4, hm, _, _, _, _, _ => exact absurd hm (by decide)
          | 5, _, ho, hf, hg, hfr, hdep =>
            simp only [gTA, gCZ, gCS, gSI] at ho
            subst ho
            refine ⟨fun _ => ?_, fun hw => absurd (show true = false from hw) (by decide)⟩
            have ts : ρ (.tmp 3) = .pointer (some ⟨I, 0, none⟩) := hfr 3 (by kernel_rfl)
            simp [go_sem, ts]
            exact ⟨Below.refl _ _, rfl⟩
          | 6, hm, _, _, _, _, _ => exact absurd hm (by decide)
          | n + 7, _, ho, _, _, _, _ => simp at ho
        · intro d i o ρ w' hm ho h0 hf hg hC hcs hfs hfr hdep
          match i, hm, ho, h0, hf, hg, hfr, hdep with
          | 0, hm, _, _, _, _, _, _ => exact absurd hm (by decide)
          | 1, hm, _, _, _, _, _, _ => exact absurd hm (by decide)
          | 2, hm, _, _, _, _, _, _ => exact absurd hm (by decide)
          | 3, _, ho, h0, hf, hg, hfr, hdep =>
            simp only [gTA, gCZ, gCS, gSI] at ho
            subst ho
            refine ⟨rfl, ?_⟩
            have ts : ρ (.tmp 81) = .pointer (some ⟨P, 0, none⟩) := hdep 2 81 (by kernel_rfl) (by kernel_rfl)
            simp [go_sem, ts, hfs]
            refine ⟨rfl, (HN8.out _ (hC.2.1 h0).par).mono ?_⟩
            rintro e u ⟨a, c, rfl, hin, hg⟩
            refine ⟨_, rfl, ⟨fun _ => (hC.2.1 h0).trans hg, fun h => absurd h (by simp [doneAt]), fun h => (hC.2.2.1 (by simpa [doneAt] using h)).grown hg.grown HPI.out, fun h => ?_, fun h => ?_, Nat.le_trans hC.2.2.2.2.2.1 hg.grown.size, hC.2.2.2.2.2.2.grown hg.grown (fun e => (HBK.out (Nat.le_refl W.heap.size)).2 (Option.some.inj e).symm)⟩, ⟨a, c, rfl, hin.mono hC.2.2.2.2.2.1⟩, ?_⟩
            · obtain ⟨ns, q1, q2⟩ := hC.2.2.2.1 (by simpa [doneAt] using h)
              exact ⟨ns, q1.grown hg.grown (fun e => (HBK.out HIW.out).2 (Option.some.inj e).symm), q2.grown hg.grown HPI.out⟩
            · exact (hC.2.2.2.2.1 (by simpa [doneAt] using h)).grown hg.grown (fun e => (HBK.out HIW.out).2 (Option.some.inj e).symm)
            · intro j t _ hs
              match j, hs with
              | 0, hs => exact hs
              | 1, hs => exact hs
              | 2, hs => exact hs
              | 3, hs => obtain ⟨a, c, q1, q2⟩ := hs; exact ⟨a, c, q1, q2.grown hg.grown HP10.out⟩
              | 4, hs => obtain ⟨q0, a, c, q1, q2⟩ := hs; exact ⟨by simpa [doneAt] using q0, a, c, q1, q2.grown hg.grown HPI.out⟩
              | 5, hs => exact hs
              | 6, hs => exact hs
              | _ + 7, _ => trivial
          | 4, _, ho, h0, hf, hg, hfr, hdep =>
            simp only [gTA, gCZ, gCS, gSI] at ho
            subst ho
            refine ⟨rfl, ?_⟩
            obtain ⟨a, c, e6, hn6⟩ : ∃ a c, ρ (.tmp 82) = .slice a (nsF ts b6 j6).length c ∧ Ints_k w10.heap.size w' (.slice a (nsF ts b6 j6).length c) (nsF ts b6 j6) := hdep 3 82 (by kernel_rfl) (by kernel_rfl)
            have tq : ρ (.tmp 80) = .slice a7 1 c7 := hdep 1 80 (by kernel_rfl) (by kernel_rfl)
            have hN := hC.2.2.1 h0
            obtain ⟨r', w'', hr, ho, hg⟩ := ints_append (I + 1) w10.heap.size w' (.slice a7 1 c7) (.slice a (nsF ts b6 j6).length c) [x] (nsF ts b6 j6) hN hn6 (by have := HI10.out; have := hC.2.2.2.2.2.1; omega) (by have := HLN.out; simp; omega)
            unfold execOp
            simp only [resolve, invoke, builtin, Sem.run_bind, Sem.run_pure, Result.andThen_ok, List.map_toArray, List.map_cons, List.map_nil, tq, e6, hr]
            obtain ⟨a2, c2, rfl⟩ := ho.shape
            have hrow : ∀ k, (Value.slice a7 1 c7).ownBlock = some k → I + 1 ≤ k := own_row_k hN
            have hlow : ∀ k, (Value.slice a7 1 c7).ownBlock = some k → k < w10.heap.size := own_lt_k N9.out
            have hd6 := hf 6 (by decide) (by kernel_rfl)
            have hWI := HIW.out
            refine ⟨⟨fun h => (hC.1 (by simpa [doneAt] using h)).ownB HBK.out hg (fun k e => by have := hrow k e; omega), fun h => (hC.2.1 (by simpa [doneAt] using h)).ownB HBK.out hg (fun k e => by have := hrow k e; omega), fun h => absurd h (by simp [doneAt]), fun h => absurd (hd6.symm.trans (by simpa [doneAt] using h)) (by decide), fun _ => (hC.2.2.2.2.1 hd6).grown hg (fun e => by have := hrow I e.symm; omega), Nat.le_trans hC.2.2.2.2.2.1 hg.size, hC.2.2.2.2.2.2.grown hg (fun e => by have := hrow W.heap.size e.symm; omega)⟩, fun _ => ⟨by simp [doneAt], a2, c2, rfl, ho⟩, ?_⟩
            intro j t _ hs
            match j, hs with
            | 0, hs => exact hs
            | 1, hs => exact hs
            | 2, hs => exact hs
            | 3, hs => obtain ⟨a, c, q1, q2⟩ := hs; exact ⟨a, c, q1, q2.kept hg hlow⟩
            | 4, hs => exact absurd (h0.symm.trans hs.1) (by decide)
            | 5, hs => exact hs
            | 6, hs => exact hs
            | _ + 7, _ => trivial
          | 5, hm, _, _, _, _, _, _ => exact absurd hm (by decide)
          | 6, _, ho, h0, hf, hg, hfr, hdep =>
            simp only [gTA, gCZ, gCS, gSI] at ho
            subst ho
            refine ⟨rfl, ?_⟩
            have t1 : ρ (.tmp 84) = .pointer (some ⟨I, 3, none⟩) := hdep 5 84 (by kernel_rfl) (by kernel_rfl)
            obtain ⟨hd4, a8, c8, e8, hn8⟩ : d 4 = true ∧ ∃ a c, ρ (.tmp 83) = .slice a ([x] ++ nsF ts b6 j6).length c ∧ Ints_k (I + 1) w' (.slice a ([x] ++ nsF ts b6 j6).length c) ([x] ++ nsF ts b6 j6) := hdep 4 83 (by kernel_rfl) (by kernel_rfl)
            have Bk := hC.2.2.2.2.1 h0
            have c3 := Bk.cell (k := 3) rfl
            have f3 := Bk.frozen 3
            generalize ([x] ++ nsF ts b6 j6).length = LX at *
            simp [go_sem, t1, e8, c3, f3]
            refine ⟨⟨fun h => (hC.1 (by simpa [doneAt] using h)).put (HBK.out HIW.out) HIW.out _, fun h => (hC.2.1 (by simpa [doneAt] using h)).put (HBK.out HIW.out) HIW.out _, fun h => absurd (hd4.symm.trans (by simpa [doneAt] using h)) (by decide), fun _ => ⟨_, Bk.set 3 _, hn8.put (Nat.lt_succ_self I)⟩, fun h => absurd h (by simp [doneAt]), by rw [World.size_setCell]; exact hC.2.2.2.2.2.1, hC.2.2.2.2.2.2.other HRI.out _⟩, ?_⟩
            intro j t _ hs
            match j, hs with
            | 0, hs => exact hs
            | 1, hs => exact hs
            | 2, hs => exact hs
            | 3, hs => obtain ⟨a, c, q1, q2⟩ := hs; exact ⟨a, c, q1, q2.put HI10.out⟩
            | 4, hs => obtain ⟨q0, a, c, q1, q2⟩ := hs; exact ⟨by simpa [doneAt] using q0, a, c, q1, q2.put (Nat.lt_succ_self I)⟩
            | 5, hs => exact hs
            | 6, hs => exact hs
            | _ + 7, _ => trivial
          | n + 7, _, ho, _, _, _, _, _ => simp at ho
        · intro V w9 hC9 hS
          simp only [puts, put_none]
          simp only [Act.put, List.setIfInBounds_toArray, List.set_cons_zero, List.set_cons_succ]
          clear hS 
          obtain ⟨ns, hB, hN10⟩ := hC9.2.2.2.1 rfl
          obtain ⟨aN, cN, rfl⟩ := hN10.shape
          have GE := hidden (hC9.1 rfl)
          have BE := hidden hB
          have RE := hidden hC9.2.2.2.2.2.2
          have NE := hidden hN10
          clear hC9 hB hN10
          go_wp2_with (go_at_call 54; (with_reducible refine (HMS.out _ _ _ GE.out.par hj7).mono ?_); rintro e wc ⟨rfl, b5, j5, F5, hg, hj5⟩; have GC := hidden (GE.out.trans hg); have BC := BE.out.grown hg.grown (fun e => (HBK.out HIW.out).2 (Option.some.inj e).symm); have RC := RE.out.grown hg.grown (fun e => (HBK.out (Nat.le_refl W.heap.size)).2 (Option.some.inj e).symm); have NC := hidden (NE.out.grown hg.grown HPI.out); have c0 : wc.cell? ⟨I, 0, none⟩ = some (.int .u8 2) := BC.cell (k := 0) rfl; have r0 : wc.cell? ⟨W.heap.size, 0, none⟩ = some (.int .u8 0) := RC.cell (k := 0) rfl; have f0 := RC.frozen 0; have c1 : wc.cell? ⟨I, 1, none⟩ = some (.string ⟨#[]⟩) := BC.cell (k := 1) rfl; have r1 : wc.cell? ⟨W.heap.size, 1, none⟩ = some (.string ⟨#[]⟩) := RC.cell (k := 1) rfl; have f1 := RC.frozen 1; have c2 : wc.cell? ⟨I, 2, none⟩ = some (.string ⟨#[]⟩) := BC.cell (k := 2) rfl; have r2 : wc.cell? ⟨W.heap.size, 2, none⟩ = some (.string ⟨#[]⟩) := RC.cell (k := 2) rfl; have f2 := RC.frozen 2; have c3 : wc.cell? ⟨I, 3, none⟩ = some (.slice aN ([x] ++ nsF ts b6 j6).length cN) := BC.cell (k := 3) rfl; have r3 : wc.cell? ⟨W.heap.size, 3, none⟩ = some (.slice none 0 0) := RC.cell (k := 3) rfl; have f3 := RC.frozen 3; have c4 : wc.cell? ⟨I, 4, none⟩ = some (.string (str p1.name)) := BC.cell (k := 4) rfl; have r4 : wc.cell? ⟨W.heap.size, 4, none⟩ = some (.string ⟨#[]⟩) := RC.cell (k := 4) rfl; have f4 := RC.frozen 4; have c5 : wc.cell? ⟨I, 5, none⟩ = some (.int .i64 p1.port) := BC.cell (k := 5) rfl; have r5 : wc.cell? ⟨W.heap.size, 5, none⟩ = some (.int .i64 0) := RC.cell (k := 5) rfl; have f5 := RC.frozen 5; have c6 : wc.cell? ⟨I, 6, none⟩ = some (.int .i64 p1.place) := BC.cell (k := 6) rfl; have r6 : wc.cell? ⟨W.heap.size, 6, none⟩ = some (.int .i64 0) := RC.cell (k := 6) rfl; have f6 := RC.frozen 6; have c7 : wc.cell? ⟨I, 7, none⟩ = some (.string (str p3.name)) := BC.cell (k := 7) rfl; have r7 : wc.cell? ⟨W.heap.size, 7, none⟩ = some (.string ⟨#[]⟩) := RC.cell (k := 7) rfl; have f7 := RC.frozen 7; have c8 : wc.cell? ⟨I, 8, none⟩ = some (.int .i64 p3.port) := BC.cell (k := 8) rfl; have r8 : wc.cell? ⟨W.heap.size, 8, none⟩ = some (.int .i64 0) := RC.cell (k := 8) rfl; have f8 := RC.frozen 8; have c9 : wc.cell? ⟨I, 9, none⟩ = some (.int .i64 p3.place) := BC.cell (k := 9) rfl; have r9 : wc.cell? ⟨W.heap.size, 9, none⟩ = some (.int .i64 0) := RC.cell (k := 9) rfl; have f9 := RC.frozen 9; have c10 : wc.cell? ⟨I, 10, none⟩ = some (.int .i64 pl) := BC.cell (k := 10) rfl; have r10 : wc.cell? ⟨W.heap.size, 10, none⟩ = some (.int .i64 0) := RC.cell (k := 10) rfl; have f10 := RC.frozen 10; clear BC RC hg)
          exact bodyPost_ret (v := .agg (itC_k 2 [] [] (.slice aN ([x] ++ nsF ts b6 j6).length cN) p1 p3 pl)) (by simp [results, Tryz.results57, go_sem, r0, r1, r2, r3, r4, r5, r6, r7, r8, r9, r10, itC_k]; rfl) rfl ⟨⟨2, [], [], ([x] ++ nsF ts b6 j6), p1, p3, pl⟩, aN, cN, b5, j5, rfl, ((((((((((((NC.out.put HRJ.out).put HRJ.out).put HRJ.out).put HRJ.out).put HRJ.out).put HRJ.out).put HRJ.out).put HRJ.out).put HRJ.out).put HRJ.out).put HRJ.out)).mono HIJ.out, HEN.out _ _ _ _ _ _ _ _ _ _ _ _ _ F1 F2 F3 (HFW.out _ _ _ F6) F5, (((((((((((GC.out.put (HBK.out (Nat.le_refl W.heap.size)) (Nat.le_refl _) _).put (HBK.out (Nat.le_refl W.heap.size)) (Nat.le_refl _) _).put (HBK.out (Nat.le_refl W.heap.size)) (Nat.le_refl _) _).put (HBK.out (Nat.le_refl W.heap.size)) (Nat.le_refl _) _).put (HBK.out (Nat.le_refl W.heap.size)) (Nat.le_refl _) _).put (HBK.out (Nat.le_refl W.heap.size)) (Nat.le_refl _) _).put (HBK.out (Nat.le_refl W.heap.size)) (Nat.le_refl _) _).put (HBK.out (Nat.le_refl W.heap.size)) (Nat.le_refl _) _).put (HBK.out (Nat.le_refl W.heap.size)) (Nat.le_refl _) _).put (HBK.out (Nat.le_refl W.heap.size)) (Nat.le_refl _) _).put (HBK.out (Nat.le_refl W.heap.size)) (Nat.le_refl _) _), hj5⟩
      · have HFW : Hid (Follows b3 j3 (withR ts) [] b3 j3) := follows_less fun e h => hw ⟨e, h⟩
        cases b3 with
        | false =>
          go_wp2_with (go_at_call 54; (with_reducible refine (HMS.out _ _ _ G3.out.par hj3).mono ?_); rintro e wc ⟨rfl, b5, j5, F5, hg, hj5⟩; have GC := hidden (G3.out.trans hg); have BC := B3.out.grown hg.grown (fun e => (HBK.out HIW.out).2 (Option.some.inj e).symm); have RC := R3.out.grown hg.grown (fun e => (HBK.out (Nat.le_refl W.heap.size)).2 (Option.some.inj e).symm); have c0 : wc.cell? ⟨I, 0, none⟩ = some (.int .u8 2) := BC.cell (k := 0) rfl; have r0 : wc.cell? ⟨W.heap.size, 0, none⟩ = some (.int .u8 0) := RC.cell (k := 0) rfl; have f0 := RC.frozen 0; have c1 : wc.cell? ⟨I, 1, none⟩ = some (.string ⟨#[]⟩) := BC.cell (k := 1) rfl; have r1 : wc.cell? ⟨W.heap.size, 1, none⟩ = some (.string ⟨#[]⟩) := RC.cell (k := 1) rfl; have f1 := RC.frozen 1; have c2 : wc.cell? ⟨I, 2, none⟩ = some (.string ⟨#[]⟩) := BC.cell (k := 2) rfl; have r2 : wc.cell? ⟨W.heap.size, 2, none⟩ = some (.string ⟨#[]⟩) := RC.cell (k := 2) rfl; have f2 := RC.frozen 2; have c3 : wc.cell? ⟨I, 3, none⟩ = some (.slice none 0 0) := BC.cell (k := 3) rfl; have r3 : wc.cell? ⟨W.heap.size, 3, none⟩ = some (.slice none 0 0) := RC.cell (k := 3) rfl; have f3 := RC.frozen 3; have c4 : wc.cell? ⟨I, 4, none⟩ = some (.string (str p1.name)) := BC.cell (k := 4) rfl; have r4 : wc.cell? ⟨W.heap.size, 4, none⟩ = some (.string ⟨#[]⟩) := RC.cell (k := 4) rfl; have f4 := RC.frozen 4; have c5 : wc.cell? ⟨I, 5, none⟩ = some (.int .i64 p1.port) := BC.cell (k := 5) rfl; have r5 : wc.cell? ⟨W.heap.size, 5, none⟩ = some (.int .i64 0) := RC.cell (k := 5) rfl; have f5 := RC.frozen 5; have c6 : wc.cell? ⟨I, 6, none⟩ = some (.int .i64 p1.place) := BC.cell (k := 6) rfl; have r6 : wc.cell? ⟨W.heap.size, 6, none⟩ = some (.int .i64 0) := RC.cell (k := 6) rfl; have f6 := RC.frozen 6; have c7 : wc.cell? ⟨I, 7, none⟩ = some (.string (str p3.name)) := BC.cell (k := 7) rfl; have r7 : wc.cell? ⟨W.heap.size, 7, none⟩ = some (.string ⟨#[]⟩) := RC.cell (k := 7) rfl; have f7 := RC.frozen 7; have c8 : wc.cell? ⟨I, 8, none⟩ = some (.int .i64 p3.port) := BC.cell (k := 8) rfl; have r8 : wc.cell? ⟨W.heap.size, 8, none⟩ = some (.int .i64 0) := RC.cell (k := 8) rfl; have f8 := RC.frozen 8; have c9 : wc.cell? ⟨I, 9, none⟩ = some (.int .i64 p3.place) := BC.cell (k := 9) rfl; have r9 : wc.cell? ⟨W.heap.size, 9, none⟩ = some (.int .i64 0) := RC.cell (k := 9) rfl; have f9 := RC.frozen 9; have c10 : wc.cell? ⟨I, 10, none⟩ = some (.int .i64 pl) := BC.cell (k := 10) rfl; have r10 : wc.cell? ⟨W.heap.size, 10, none⟩ = some (.int .i64 0) := RC.cell (k := 10) rfl; have f10 := RC.frozen 10; clear BC RC hg)
          exact bodyPost_ret (v := .agg (itC_k 2 [] [] (.slice none 0 0) p1 p3 pl)) (by simp [results, Tryz.results57, go_sem, r0, r1, r2, r3, r4, r5, r6, r7, r8, r9, r10, itC_k]; rfl) rfl ⟨⟨2, [], [], [], p1, p3, pl⟩, none, 0, b5, j5, rfl, World.ownsRow_nil _ _ _ _, HEN.out _ _ _ _ _ _ _ _ _ _ _ _ _ F1 F2 F3 HFW.out F5, (((((((((((GC.out.put (HBK.out (Nat.le_refl W.heap.size)) (Nat.le_refl _) _).put (HBK.out (Nat.le_refl W.heap.size)) (Nat.le_refl _) _).put (HBK.out (Nat.le_refl W.heap.size)) (Nat.le_refl _) _).put (HBK.out (Nat.le_refl W.heap.size)) (Nat.le_refl _) _).put (HBK.out (Nat.le_refl W.heap.size)) (Nat.le_refl _) _).put (HBK.out (Nat.le_refl W.heap.size)) (Nat.le_refl _) _).put (HBK.out (Nat.le_refl W.heap.size)) (Nat.le_refl _) _).put (HBK.out (Nat.le_refl W.heap.size)) (Nat.le_refl _) _).put (HBK.out (Nat.le_refl W.heap.size)) (Nat.le_refl _) _).put (HBK.out (Nat.le_refl W.heap.size)) (Nat.le_refl _) _).put (HBK.out (Nat.le_refl W.heap.size)) (Nat.le_refl _) _), hj5⟩
        | true =>
          have hw' : (nthT ts j3).text ≠ [119, 105, 116, 104] := fun h => hw ⟨rfl, h⟩
          have HS9 : Hid (∀ w1, Rdr P _ ts j3 true w1 → Calls Tryz.prog 56 #[.pointer (some ⟨P, 0, none⟩), .int .u8 1, .string ⟨#[119, 105, 116, 104]⟩] w1 fun e w' => e = .returned (.bool false) ∧ Below w1.heap.size w1 w') := fun w1 h1 => by
            have := HWI.out w1 j3 h1 hj3
            rw [decide_eq_false hw'] at this
            exact this
          clear hw hw'
          go_wp2_with (first
            | (go_at_call 54; (with_reducible refine (HMS.out _ _ _ G4.out.par hj3).mono ?_); rintro e wc ⟨rfl, b5, j5, F5, hg, hj5⟩; have GC := hidden (G4.out.trans hg); have BC := B4.out.grown hg.grown (fun e => (HBK.out HIW.out).2 (Option.some.inj e).symm); have RC := R4.out.grown hg.grown (fun e => (HBK.out (Nat.le_refl W.heap.size)).2 (Option.some.inj e).symm); have c0 : wc.cell? ⟨I, 0, none⟩ = some (.int .u8 2) := BC.cell (k := 0) rfl; have r0 : wc.cell? ⟨W.heap.size, 0, none⟩ = some (.int .u8 0) := RC.cell (k := 0) rfl; have f0 := RC.frozen 0; have c1 : wc.cell? ⟨I, 1, none⟩ = some (.string ⟨#[]⟩) := BC.cell (k := 1) rfl; have r1 : wc.cell? ⟨W.heap.size, 1, none⟩ = some (.string ⟨#[]⟩) := RC.cell (k := 1) rfl; have f1 := RC.frozen 1; have c2 : wc.cell? ⟨I, 2, none⟩ = some (.string ⟨#[]⟩) := BC.cell (k := 2) rfl; have r2 : wc.cell? ⟨W.heap.size, 2, none⟩ = some (.string ⟨#[]⟩) := RC.cell (k := 2) rfl; have f2 := RC.frozen 2; have c3 : wc.cell? ⟨I, 3, none⟩ = some (.slice none 0 0) := BC.cell (k := 3) rfl; have r3 : wc.cell? ⟨W.heap.size, 3, none⟩ = some (.slice none 0 0) := RC.cell (k := 3) rfl; have f3 := RC.frozen 3; have c4 : wc.cell? ⟨I, 4, none⟩ = some (.string (str p1.name)) := BC.cell (k := 4) rfl; have r4 : wc.cell? ⟨W.heap.size, 4, none⟩ = some (.string ⟨#[]⟩) := RC.cell (k := 4) rfl; have f4 := RC.frozen 4; have c5 : wc.cell? ⟨I, 5, none⟩ = some (.int .i64 p1.port) := BC.cell (k := 5) rfl; have r5 : wc.cell? ⟨W.heap.size, 5, none⟩ = some (.int .i64 0) := RC.cell (k := 5) rfl; have f5 := RC.frozen 5; have c6 : wc.cell? ⟨I, 6, none⟩ = some (.int .i64 p1.place) := BC.cell (k := 6) rfl; have r6 : wc.cell? ⟨W.heap.size, 6, none⟩ = some (.int .i64 0) := RC.cell (k := 6) rfl; have f6 := RC.frozen 6; have c7 : wc.cell? ⟨I, 7, none⟩ = some (.string (str p3.name)) := BC.cell (k := 7) rfl; have r7 : wc.cell? ⟨W.heap.size, 7, none⟩ = some (.string ⟨#[]⟩) := RC.cell (k := 7) rfl; have f7 := RC.frozen 7; have c8 : wc.cell? ⟨I, 8, none⟩ = some (.int .i64 p3.port) := BC.cell (k := 8) rfl; have r8 : wc.cell? ⟨W.heap.size, 8, none⟩ = some (.int .i64 0) := RC.cell (k := 8) rfl; have f8 := RC.frozen 8; have c9 : wc.cell? ⟨I, 9, none⟩ = some (.int .i64 p3.place) := BC.cell (k := 9) rfl; have r9 : wc.cell? ⟨W.heap.size, 9, none⟩ = some (.int .i64 0) := RC.cell (k := 9) rfl; have f9 := RC.frozen 9; have c10 : wc.cell? ⟨I, 10, none⟩ = some (.int .i64 pl) := BC.cell (k := 10) rfl; have r10 : wc.cell? ⟨W.heap.size, 10, none⟩ = some (.int .i64 0) := RC.cell (k := 10) rfl; have f10 := RC.frozen 10; clear BC RC hg)
            | (go_at_call 56; (with_reducible refine (HS9.out _ G3.out.par).mono ?_); rintro e u6 ⟨rfl, hb⟩; have G4 := hidden (G3.out.later hb); have B4 := hidden (B3.out.below hb); have R4 := hidden (R3.out.below hb); clear hb))
          exact bodyPost_ret (v := .agg (itC_k 2 [] [] (.slice none 0 0) p1 p3 pl)) (by simp [results, Tryz.results57, go_sem, r0, r1, r2, r3, r4, r5, r6, r7, r8, r9, r10, itC_k]; rfl) rfl ⟨⟨2, [], [], [], p1, p3, pl⟩, none, 0, b5, j5, rfl, World.ownsRow_nil _ _ _ _, HEN.out _ _ _ _ _ _ _ _ _ _ _ _ _ F1 F2 F3 HFW.out F5, (((((((((((GC.out.put (HBK.out (Nat.le_refl W.heap.size)) (Nat.le_refl _) _).put (HBK.out (Nat.le_refl W.heap.size)) (Nat.le_refl _) _).put (HBK.out (Nat.le_refl W.heap.size)) (Nat.le_refl _) _).put (HBK.out (Nat.le_refl W.heap.size)) (Nat.le_refl _) _).put (HBK.out (Nat.le_refl W.heap.size)) (Nat.le_refl _) _).put (HBK.out (Nat.le_refl W.heap.size)) (Nat.le_refl _) _).put (HBK.out (Nat.le_refl W.heap.size)) (Nat.le_refl _) _).put (HBK.out (Nat.le_refl W.heap.size)) (Nat.le_refl _) _).put (HBK.out (Nat.le_refl W.heap.size)) (Nat.le_refl _) _).put (HBK.out (Nat.le_refl W.heap.size)) (Nat.le_refl _) _).put (HBK.out (Nat.le_refl W.heap.size)) (Nat.le_refl _) _), hj5⟩
    have HS1 : Hid (∀ w1, Rdr P _ ts q true w1 → Calls Tryz.prog 56 #[.pointer (some ⟨P, 0, none⟩), .int .u8 1, .string ⟨#[101, 100, 103, 101]⟩] w1 fun e w' => e = .returned (.bool false) ∧ Below w1.heap.size w1 w') := fun w1 h1 => by { have := HISK.out w1 [101, 100, 103, 101] ⟨by decide, Or.inl ⟨rfl, by decide⟩⟩ h1; rw [decide_eq_false t1] at this; exact this }
    by_cases t2 : (nthT ts q).text = [105, 110]
    · skip
      have HS2 : Hid (∀ w1, Rdr P _ ts q true w1 → Calls Tryz.prog 56 #[.pointer (some ⟨P, 0, none⟩), .int .u8 1, .string ⟨#[105, 110]⟩] w1 fun e w' => e = .returned (.bool true) ∧ Below w1.heap.size w1 w') := fun w1 h1 => by { have := HISK.out w1 [105, 110] ⟨by decide, Or.inl ⟨rfl, by decide⟩⟩ h1; rw [decide_eq_true t2] at this; exact this }
      have HEN : Hid (∀ n1 b1 j1 b2 j2 p3 b3 j3 b5 j5, Follows true (q + 1) (nameR ts) n1 b1 j1 → Follows b1 j1 (textR ts [45, 62]) () b2 j2 → Follows b2 j2 (placeR ts) p3 b3 j3 → Follows b3 j3 (textR ts [59]) () b5 j5 → Follows true q (itemR ts) ⟨3, n1, [], [], noPlc_k, p3, pl⟩ b5 j5) := fun _ _ _ _ _ _ _ _ _ _ h1 h2 h3 h5 => by rw [← hPL]; exact follows_body (follows_in t0 t1 t2 h1 h2 h3) h5
      have hq1 : q + 1 < N := HQ1.out _ (by decide) t2
      clear hPL t0 t1 t2
      go_wp2_with (first
        | (go_at_call 54; (with_reducible refine (HMS.out _ _ _ G3.out.par hj3).mono ?_); rintro e wc ⟨rfl, b5, j5, F5, hg, hj5⟩; have GC := hidden (G3.out.trans hg); have BC := B3.out.grown hg.grown (fun e => (HBK.out HIW.out).2 (Option.some.inj e).symm); have RC := R3.out.grown hg.grown (fun e => (HBK.out (Nat.le_refl W.heap.size)).2 (Option.some.inj e).symm); have c0 : wc.cell? ⟨I, 0, none⟩ = some (.int .u8 3) := BC.cell (k := 0) rfl; have r0 : wc.cell? ⟨W.heap.size, 0, none⟩ = some (.int .u8 0) := RC.cell (k := 0) rfl; have f0 := RC.frozen 0; have c1 : wc.cell? ⟨I, 1, none⟩ = some (.string (str n1)) := BC.cell (k := 1) rfl; have r1 : wc.cell? ⟨W.heap.size, 1, none⟩ = some (.string ⟨#[]⟩) := RC.cell (k := 1) rfl; have f1 := RC.frozen 1; have c2 : wc.cell? ⟨I, 2, none⟩ = some (.string ⟨#[]⟩) := BC.cell (k := 2) rfl; have r2 : wc.cell? ⟨W.heap.size, 2, none⟩ = some (.string ⟨#[]⟩) := RC.cell (k := 2) rfl; have f2 := RC.frozen 2; have c3 : wc.cell? ⟨I, 3, none⟩ = some (.slice none 0 0) := BC.cell (k := 3) rfl; have r3 : wc.cell? ⟨W.heap.size, 3, none⟩ = some (.slice none 0 0) := RC.cell (k := 3) rfl; have f3 := RC.frozen 3; have c4 : wc.cell? ⟨I, 4, none⟩ = some (.string ⟨#[]⟩) := BC.cell (k := 4) rfl; have r4 : wc.cell? ⟨W.heap.size, 4, none⟩ = some (.string ⟨#[]⟩) := RC.cell (k := 4) rfl; have f4 := RC.frozen 4; have c5 : wc.cell? ⟨I, 5, none⟩ = some (.int .i64 0) := BC.cell (k := 5) rfl; have r5 : wc.cell? ⟨W.heap.size, 5, none⟩ = some (.int .i64 0) := RC.cell (k := 5) rfl; have f5 := RC.frozen 5; have c6 : wc.cell? ⟨I, 6, none⟩ = some (.int .i64 0) := BC.cell (k := 6) rfl; have r6 : wc.cell? ⟨W.heap.size, 6, none⟩ = some (.int .i64 0) := RC.cell (k := 6) rfl; have f6 := RC.frozen 6; have c7 : wc.cell? ⟨I, 7, none⟩ = some (.string (str p3.name)) := BC.cell (k := 7) rfl; have r7 : wc.cell? ⟨W.heap.size, 7, none⟩ = some (.string ⟨#[]⟩) := RC.cell (k := 7) rfl; have f7 := RC.frozen 7; have c8 : wc.cell? ⟨I, 8, none⟩ = some (.int .i64 p3.port) := BC.cell (k := 8) rfl; have r8 : wc.cell? ⟨W.heap.size, 8, none⟩ = some (.int .i64 0) := RC.cell (k := 8) rfl; have f8 := RC.frozen 8; have c9 : wc.cell? ⟨I, 9, none⟩ = some (.int .i64 p3.place) := BC.cell (k := 9) rfl; have r9 : wc.cell? ⟨W.heap.size, 9, none⟩ = some (.int .i64 0) := RC.cell (k := 9) rfl; have f9 := RC.frozen 9; have c10 : wc.cell? ⟨I, 10, none⟩ = some (.int .i64 pl) := BC.cell (k := 10) rfl; have r10 : wc.cell? ⟨W.heap.size, 10, none⟩ = some (.int .i64 0) := RC.cell (k := 10) rfl; have f10 := RC.frozen 10; clear BC RC hg)
        | (go_at_call 96; (with_reducible refine (HP.out _ _ _ G2.out.par hj2).mono ?_); rintro e w3 ⟨p3, b3, j3, rfl, F3, hg, hj3⟩; have Bk := B2.out.grown hg.grown (fun e => (HBK.out HIW.out).2 (Option.some.inj e).symm); have Rk := R2.out.grown hg.grown (fun e => (HBK.out (Nat.le_refl W.heap.size)).2 (Option.some.inj e).symm); have c3_7 := Bk.cell (k := 7) rfl; have f3_7 := Bk.frozen 7; have c3_8 := Bk.cell (k := 8) rfl; have f3_8 := Bk.frozen 8; have c3_9 := Bk.cell (k := 9) rfl; have f3_9 := Bk.frozen 9; have G3 := hidden ((((G2.out.trans hg).put (k := 7) (HBK.out HIW.out) HIW.out (.string (str p3.name))).put (k := 8) (HBK.out HIW.out) HIW.out (.int .i64 p3.port)).put (k := 9) (HBK.out HIW.out) HIW.out (.int .i64 p3.place)); have B3 : Hid (Blk 103 I (((w3.setCell ⟨I, 7, none⟩ (.string (str p3.name))).setCell ⟨I, 8, none⟩ (.int .i64 p3.port)).setCell ⟨I, 9, none⟩ (.int .i64 p3.place)) (itC_k 3 n1 [] (.slice none 0 0) noPlc_k p3 pl)) := (((Bk.set 7 (.string (str p3.name))).set 8 (.int .i64 p3.port)).set 9 (.int .i64 p3.place)); have R3 : Hid (Blk 103 W.heap.size (((w3.setCell ⟨I, 7, none⟩ (.string (str p3.name))).setCell ⟨I, 8, none⟩ (.int .i64 p3.port)).setCell ⟨I, 9, none⟩ (.int .i64 p3.place)) #[.int .u8 0, .string ⟨#[]⟩, .string ⟨#[]⟩, .slice none 0 0, .string ⟨#[]⟩, .int .i64 0, .int .i64 0, .string ⟨#[]⟩, .int .i64 0, .int .i64 0, .int .i64 0]) := (((Rk.other HRI.out _).other HRI.out _).other HRI.out _); clear hg Bk Rk)
        | (go_at_call 54; (with_reducible refine (HMA.out _ _ _ G1.out.par hj1).mono ?_); rintro e w2 ⟨rfl, b2, j2, F2, hg, hj2⟩; have Bk := B1.out.grown hg.grown (fun e => (HBK.out HIW.out).2 (Option.some.inj e).symm); have Rk := R1.out.grown hg.grown (fun e => (HBK.out (Nat.le_refl W.heap.size)).2 (Option.some.inj e).symm); have G2 := hidden (G1.out.trans hg); have B2 : Hid (Blk 103 I w2 (itC_k 3 n1 [] (.slice none 0 0) noPlc_k noPlc_k pl)) := Bk; have R2 : Hid (Blk 103 W.heap.size w2 #[.int .u8 0, .string ⟨#[]⟩, .string ⟨#[]⟩, .slice none 0 0, .string ⟨#[]⟩, .int .i64 0, .int .i64 0, .string ⟨#[]⟩, .int .i64 0, .int .i64 0, .int .i64 0]) := Rk; clear hg Bk Rk)
        | (go_at_call 55; (with_reducible refine (HW.out _ _ _ G0.out.par hq1).mono ?_); rintro e w1 ⟨n1, b1, j1, rfl, F1, hg, hj1⟩; have Bk := B0.out.grown hg.grown (fun e => (HBK.out HIW.out).2 (Option.some.inj e).symm); have Rk := R0.out.grown hg.grown (fun e => (HBK.out (Nat.le_refl W.heap.size)).2 (Option.some.inj e).symm); have c1_1 := Bk.cell (k := 1) rfl; have f1_1 := Bk.frozen 1; have G1 := hidden ((G0.out.trans hg).put (k := 1) (HBK.out HIW.out) HIW.out (.string (str n1))); have B1 : Hid (Blk 103 I (w1.setCell ⟨I, 1, none⟩ (.string (str n1))) (itC_k 3 n1 [] (.slice none 0 0) noPlc_k noPlc_k pl)) := (Bk.set 1 (.string (str n1))); have R1 : Hid (Blk 103 W.heap.size (w1.setCell ⟨I, 1, none⟩ (.string (str n1))) #[.int .u8 0, .string ⟨#[]⟩, .string ⟨#[]⟩, .slice none 0 0, .string ⟨#[]⟩, .int .i64 0, .int .i64 0, .string ⟨#[]⟩, .int .i64 0, .int .i64 0, .int .i64 0]) := (Rk.other HRI.out _); clear hg Bk Rk)
        | (go_at_call 56; (with_reducible refine (HS2.out _ GA2.out.par).mono ?_); rintro e u3 ⟨rfl, hb⟩; have GA3 := hidden (GA2.out.later hb); have BA3 := hidden (BA2.out.below hb); have RA3 := hidden (RA2.out.below hb); have p1 := GA3.out.par.c1; have pf1 := GA3.out.par.fz 1; have Bq : Blk 103 I (u3.setCell ⟨P, 1, none⟩ (.int .i64 ((q : Int) + 1))) (itC_k 0 [] [] (.slice none 0 0) noPlc_k noPlc_k pl) := BA3.out.other (fun e => (HBK.out HIW.out).2 e.symm) _; have d0 := Bq.cell (k := 0) rfl; have df0 := Bq.frozen 0; have G0 : Hid (RGo P _ ts (q + 1) true W ((u3.setCell ⟨P, 1, none⟩ (.int .i64 ((q : Int) + 1))).setCell ⟨I, 0, none⟩ (.int .u8 3))) := ((GA3.out.trans (GA3.out.par.setAt (q + 1))).put (k := 0) (HBK.out HIW.out) HIW.out (.int .u8 3)); have B0 : Hid (Blk 103 I ((u3.setCell ⟨P, 1, none⟩ (.int .i64 ((q : Int) + 1))).setCell ⟨I, 0, none⟩ (.int .u8 3)) (itC_k 3 [] [] (.slice none 0 0) noPlc_k noPlc_k pl)) := Bq.set 0 (.int .u8 3); have R0 : Hid (Blk 103 W.heap.size ((u3.setCell ⟨P, 1, none⟩ (.int .i64 ((q : Int) + 1))).setCell ⟨I, 0, none⟩ (.int .u8 3)) #[.int .u8 0, .string ⟨#[]⟩, .string ⟨#[]⟩, .slice none 0 0, .string ⟨#[]⟩, .int .i64 0, .int .i64 0, .string ⟨#[]⟩, .int .i64 0, .int .i64 0, .int .i64 0]) := (RA3.out.other (fun e => (HBK.out (Nat.le_refl W.heap.size)).2 e.symm) _).other HRI.out _; clear Bq; clear hb)
        | (go_at_call 56; (with_reducible refine (HS1.out _ GA1.out.par).mono ?_); rintro e u2 ⟨rfl, hb⟩; have GA2 := hidden (GA1.out.later hb); have BA2 := hidden (BA1.out.below hb); have RA2 := hidden (RA1.out.below hb); clear hb)
        | (go_at_call 56; (with_reducible refine (HS0.out _ GA0.out.par).mono ?_); rintro e u1 ⟨rfl, hb⟩; have GA1 := hidden (GA0.out.later hb); have BA1 := hidden (BA0.out.below hb); have RA1 := hidden (RA0.out.below hb); clear hb))
      exact bodyPost_ret (v := .agg (itC_k 3 n1 [] (.slice none 0 0) noPlc_k p3 pl)) (by simp [results, Tryz.results57, go_sem, r0, r1, r2, r3, r4, r5, r6, r7, r8, r9, r10, itC_k, noPlc_k]; rfl) rfl ⟨⟨3, n1, [], [], noPlc_k, p3, pl⟩, none, 0, b5, j5, rfl, World.ownsRow_nil _ _ _ _, HEN.out _ _ _ _ _ _ _ _ _ _ F1 F2 F3 F5, (((((((((((GC.out.put (HBK.out (Nat.le_refl W.heap.size)) (Nat.le_refl _) _).put (HBK.out (Nat.le_refl W.heap.size)) (Nat.le_refl _) _).put (HBK.out (Nat.le_refl W.heap.size)) (Nat.le_refl _) _).put (HBK.out (Nat.le_refl W.heap.size)) (Nat.le_refl _) _).put (HBK.out (Nat.le_refl W.heap.size)) (Nat.le_refl _) _).put (HBK.out (Nat.le_refl W.heap.size)) (Nat.le_refl _) _).put (HBK.out (Nat.le_refl W.heap.size)) (Nat.le_refl _) _).put (HBK.out (Nat.le_refl W.heap.size)) (Nat.le_refl _) _).put (HBK.out (Nat.le_refl W.heap.size)) (Nat.le_refl _) _).put (HBK.out (Nat.le_refl W.heap.size)) (Nat.le_refl _) _).put (HBK.out (Nat.le_refl W.heap.size)) (Nat.le_refl _) _), hj5⟩
    have HS2 : Hid (∀ w1, Rdr P _ ts q true w1 → Calls Tryz.prog 56 #[.pointer (some ⟨P, 0, none⟩), .int .u8 1, .string ⟨#[105, 110]⟩] w1 fun e w' => e = .returned (.bool false) ∧ Below w1.heap.size w1 w') := fun w1 h1 => by { have := HISK.out w1 [105, 110] ⟨by decide, Or.inl ⟨rfl, by decide⟩⟩ h1; rw [decide_eq_false t2] at this; exact this }
    by_cases t3 : (nthT ts q).text = [111, 117, 116]
    · skip
      have HS3 : Hid (∀ w1, Rdr P _ ts q true w1 → Calls Tryz.prog 56 #[.pointer (some ⟨P, 0, none⟩), .int .u8 1, .string ⟨#[111, 117, 116]⟩] w1 fun e w' => e = .returned (.bool true) ∧ Below w1.heap.size w1 w') := fun w1 h1 => by { have := HISK.out w1 [111, 117, 116] ⟨by decide, Or.inl ⟨rfl, by decide⟩⟩ h1; rw [decide_eq_true t3] at this; exact this }
      have HEN : Hid (∀ p1 b1 j1 b2 j2 n3 b3 j3 b5 j5, Follows true (q + 1) (placeR ts) p1 b1 j1 → Follows b1 j1 (textR ts [45, 62]) () b2 j2 → Follows b2 j2 (nameR ts) n3 b3 j3 → Follows b3 j3 (textR ts [59]) () b5 j5 → Follows true q (itemR ts) ⟨4, n3, [], [], p1, noPlc_k, pl⟩ b5 j5) := fun _ _ _ _ _ _ _ _ _ _ h1 h2 h3 h5 => by rw [← hPL]; exact follows_body (follows_out t0 t1 t2 t3 h1 h2 h3) h5
      have hq1 : q + 1 < N := HQ1.out _ (by decide) t3
      clear hPL t0 t1 t2 t3
      go_wp2_with (first
        | (go_at_call 54; (with_reducible refine (HMS.out _ _ _ G3.out.par hj3).mono ?_); rintro e wc ⟨rfl, b5, j5, F5, hg, hj5⟩; have GC := hidden (G3.out.trans hg); have BC := B3.out.grown hg.grown (fun e => (HBK.out HIW.out).2 (Option.some.inj e).symm); have RC := R3.out.grown hg.grown (fun e => (HBK.out (Nat.le_refl W.heap.size)).2 (Option.some.inj e).symm); have c0 : wc.cell? ⟨I, 0, none⟩ = some (.int .u8 4) := BC.cell (k := 0) rfl; have r0 : wc.cell? ⟨W.heap.size, 0, none⟩ = some (.int .u8 0) := RC.cell (k := 0) rfl; have f0 := RC.frozen 0; have c1 : wc.cell? ⟨I, 1, none⟩ = some (.string (str n3)) := BC.cell (k := 1) rfl; have r1 : wc.cell? ⟨W.heap.size, 1, none⟩ = some (.string ⟨#[]⟩) := RC.cell (k := 1) rfl; have f1 := RC.frozen 1; have c2 : wc.cell? ⟨I, 2, none⟩ = some (.string ⟨#[]⟩) := BC.cell (k := 2) rfl; have r2 : wc.cell? ⟨W.heap.size, 2, none⟩ = some (.string ⟨#[]⟩) := RC.cell (k := 2) rfl; have f2 := RC.frozen 2; have c3 : wc.cell? ⟨I, 3, none⟩ = some (.slice none 0 0) := BC.cell (k := 3) rfl; have r3 : wc.cell? ⟨W.heap.size, 3, none⟩ = some (.slice none 0 0) := RC.cell (k := 3) rfl; have f3 := RC.frozen 3; have c4 : wc.cell? ⟨I, 4, none⟩ = some (.string (str p1.name)) := BC.cell (k := 4) rfl; have r4 : wc.cell? ⟨W.heap.size, 4, none⟩ = some (.string ⟨#[]⟩) := RC.cell (k := 4) rfl; have f4 := RC.frozen 4; have c5 : wc.cell? ⟨I, 5, none⟩ = some (.int .i64 p1.port) := BC.cell (k := 5) rfl; have r5 : wc.cell? ⟨W.heap.size, 5, none⟩ = some (.int .i64 0) := RC.cell (k := 5) rfl; have f5 := RC.frozen 5; have c6 : wc.cell? ⟨I, 6, none⟩ = some (.int .i64 p1.place) := BC.cell (k := 6) rfl; have r6 : wc.cell? ⟨W.heap.size, 6, none⟩ = some (.int .i64 0) := RC.cell (k := 6) rfl; have f6 := RC.frozen 6; have c7 : wc.cell? ⟨I, 7, none⟩ = some (.string ⟨#[]⟩) := BC.cell (k := 7) rfl; have r7 : wc.cell? ⟨W.heap.size, 7, none⟩ = some (.string ⟨#[]⟩) := RC.cell (k := 7) rfl; have f7 := RC.frozen 7; have c8 : wc.cell? ⟨I, 8, none⟩ = some (.int .i64 0) := BC.cell (k := 8) rfl; have r8 : wc.cell? ⟨W.heap.size, 8, none⟩ = some (.int .i64 0) := RC.cell (k := 8) rfl; have f8 := RC.frozen 8; have c9 : wc.cell? ⟨I, 9, none⟩ = some (.int .i64 0) := BC.cell (k := 9) rfl; have r9 : wc.cell? ⟨W.heap.size, 9, none⟩ = some (.int .i64 0) := RC.cell (k := 9) rfl; have f9 := RC.frozen 9; have c10 : wc.cell? ⟨I, 10, none⟩ = some (.int .i64 pl) := BC.cell (k := 10) rfl; have r10 : wc.cell? ⟨W.heap.size, 10, none⟩ = some (.int .i64 0) := RC.cell (k := 10) rfl; have f10 := RC.frozen 10; clear BC RC hg)
        | (go_at_call 55; (with_reducible refine (HW.out _ _ _ G2.out.par hj2).mono ?_); rintro e w3 ⟨n3, b3, j3, rfl, F3, hg, hj3⟩; have Bk := B2.out.grown hg.grown (fun e => (HBK.out HIW.out).2 (Option.some.inj e).symm); have Rk := R2.out.grown hg.grown (fun e => (HBK.out (Nat.le_refl W.heap.size)).2 (Option.some.inj e).symm); have c3_1 := Bk.cell (k := 1) rfl; have f3_1 := Bk.frozen 1; have G3 := hidden ((G2.out.trans hg).put (k := 1) (HBK.out HIW.out) HIW.out (.string (str n3))); have B3 : Hid (Blk 103 I (w3.setCell ⟨I, 1, none⟩ (.string (str n3))) (itC_k 4 n3 [] (.slice none 0 0) p1 noPlc_k pl)) := (Bk.set 1 (.string (str n3))); have R3 : Hid (Blk 103 W.heap.size (w3.setCell ⟨I, 1, none⟩ (.string (str n3))) #[.int .u8 0, .string ⟨#[]⟩, .string ⟨#[]⟩, .slice none 0 0, .string ⟨#[]⟩, .int .i64 0, .int .i64 0, .string ⟨#[]⟩, .int .i64 0, .int .i64 0, .int .i64 0]) := (Rk.other HRI.out _); clear hg Bk Rk)
        | (go_at_call 54; (with_reducible refine (HMA.out _ _ _ G1.out.par hj1).mono ?_); rintro e w2 ⟨rfl, b2, j2, F2, hg, hj2⟩; have Bk := B1.out.grown hg.grown (fun e => (HBK.out HIW.out).2 (Option.some.inj e).symm); have Rk := R1.out.grown hg.grown (fun e => (HBK.out (Nat.le_refl W.heap.size)).2 (Option.some.inj e).symm); have G2 := hidden (G1.out.trans hg); have B2 : Hid (Blk 103 I w2 (itC_k 4 [] [] (.slice none 0 0) p1 noPlc_k pl)) := Bk; have R2 : Hid (Blk 103 W.heap.size w2 #[.int .u8 0, .string ⟨#[]⟩, .string ⟨#[]⟩, .slice none 0 0, .string ⟨#[]⟩, .int .i64 0, .int .i64 0, .string ⟨#[]⟩, .int .i64 0, .int .i64 0, .int .i64 0]) := Rk; clear hg Bk Rk)
        | (go_at_call 96; (with_reducible refine (HP.out _ _ _ G0.out.par hq1).mono ?_); rintro e w1 ⟨p1, b1, j1, rfl, F1, hg, hj1⟩; have Bk := B0.out.grown hg.grown (fun e => (HBK.out HIW.out).2 (Option.some.inj e).symm); have Rk := R0.out.grown hg.grown (fun e => (HBK.out (Nat.le_refl W.heap.size)).2 (Option.some.inj e).symm); have c1_4 := Bk.cell (k := 4) rfl; have f1_4 := Bk.frozen 4; have c1_5 := Bk.cell (k := 5) rfl; have f1_5 := Bk.frozen 5; have c1_6 := Bk.cell (k := 6) rfl; have f1_6 := Bk.frozen 6; have G1 := hidden ((((G0.out.trans hg).put (k := 4) (HBK.out HIW.out) HIW.out (.string (str p1.name))).put (k := 5) (HBK.out HIW.out) HIW.out (.int .i64 p1.port)).put (k := 6) (HBK.out HIW.out) HIW.out (.int .i64 p1.place)); have B1 : Hid (Blk 103 I (((w1.setCell ⟨I, 4, none⟩ (.string (str p1.name))).setCell ⟨I, 5, none⟩ (.int .i64 p1.port)).setCell ⟨I, 6, none⟩ (.int .i64 p1.place)) (itC_k 4 [] [] (.slice none 0 0) p1 noPlc_k pl)) := (((Bk.set 4 (.string (str p1.name))).set 5 (.int .i64 p1.port)).set 6 (.int .i64 p1.place)); have R1 : Hid (Blk 103 W.heap.size (((w1.setCell ⟨I, 4, none⟩ (.string (str p1.name))).setCell ⟨I, 5, none⟩ (.int .i64 p1.port)).setCell ⟨I, 6, none⟩ (.int .i64 p1.place)) #[.int .u8 0, .string ⟨#[]⟩, .string ⟨#[]⟩, .slice none 0 0, .string ⟨#[]⟩, .int .i64 0, .int .i64 0, .string ⟨#[]⟩, .int .i64 0, .int .i64 0, .int .i64 0]) := (((Rk.other HRI.out _).other HRI.out _).other HRI.out _); clear hg Bk Rk)
        | (go_at_call 56; (with_reducible refine (HS3.out _ GA3.out.par).mono ?_); rintro e u4 ⟨rfl, hb⟩; have GA4 := hidden (GA3.out.later hb); have BA4 := hidden (BA3.out.below hb); have RA4 := hidden (RA3.out.below hb); have p1 := GA4.out.par.c1; have pf1 := GA4.out.par.fz 1; have Bq : Blk 103 I (u4.setCell ⟨P, 1, none⟩ (.int .i64 ((q : Int) + 1))) (itC_k 0 [] [] (.slice none 0 0) noPlc_k noPlc_k pl) := BA4.out.other (fun e => (HBK.out HIW.out).2 e.symm) _; have d0 := Bq.cell (k := 0) rfl; have df0 := Bq.frozen 0; have G0 : Hid (RGo P _ ts (q + 1) true W ((u4.setCell ⟨P, 1, none⟩ (.int .i64 ((q : Int) + 1))).setCell ⟨I, 0, none⟩ (.int .u8 4))) := ((GA4.out.trans (GA4.out.par.setAt (q + 1))).put (k := 0) (HBK.out HIW.out) HIW.out (.int .u8 4)); have B0 : Hid (Blk 103 I ((u4.setCell ⟨P, 1, none⟩ (.int .i64 ((q : Int) + 1))).setCell ⟨I, 0, none⟩ (.int .u8 4)) (itC_k 4 [] [] (.slice none 0 0) noPlc_k noPlc_k pl)) := Bq.set 0 (.int .u8 4); have R0 : Hid (Blk 103 W.heap.size ((u4.setCell ⟨P, 1, none⟩ (.int .i64 ((q : Int) + 1))).setCell ⟨I, 0, none⟩ (.int .u8 4)) #[.int .u8 0, .string ⟨#[]⟩, .string ⟨#[]⟩, .slice none 0 0, .string ⟨#[]⟩, .int .i64 0, .int .i64 0, .string ⟨#[]⟩, .int .i64 0, .int .i64 0, .int .i64 0]) := (RA4.out.other (fun e => (HBK.out (Nat.le_refl W.heap.size)).2 e.symm) _).other HRI.out _; clear Bq; clear hb)
        | (go_at_call 56; (with_reducible refine (HS2.out _ GA2.out.par).mono ?_); rintro e u3 ⟨rfl, hb⟩; have GA3 := hidden (GA2.out.later hb); have BA3 := hidden (BA2.out.below hb); have RA3 := hidden (RA2.out.below hb); clear hb)
        | (go_at_call 56; (with_reducible refine (HS1.out _ GA1.out.par).mono ?_); rintro e u2 ⟨rfl, hb⟩; have GA2 := hidden (GA1.out.later hb); have BA2 := hidden (BA1.out.below hb); have RA2 := hidden (RA1.out.below hb); clear hb)
        | (go_at_call 56; (with_reducible refine (HS0.out _ GA0.out.par).mono ?_); rintro e u1 ⟨rfl, hb⟩; have GA1 := hidden (GA0.out.later hb); have BA1 := hidden (BA0.out.below hb); have RA1 := hidden (RA0.out.below hb); clear hb))
      exact bodyPost_ret (v := .agg (itC_k 4 n3 [] (.slice none 0 0) p1 noPlc_k pl)) (by simp [results, Tryz.results57, go_sem, r0, r1, r2, r3, r4, r5, r6, r7, r8, r9, r10, itC_k, noPlc_k]; rfl) rfl ⟨⟨4, n3, [], [], p1, noPlc_k, pl⟩, none, 0, b5, j5, rfl, World.ownsRow_nil _ _ _ _, HEN.out _ _ _ _ _ _ _ _ _ _ F1 F2 F3 F5, (((((((((((GC.out.put (HBK.out (Nat.le_refl W.heap.size)) (Nat.le_refl _) _).put (HBK.out (Nat.le_refl W.heap.size)) (Nat.le_refl _) _).put (HBK.out (Nat.le_refl W.heap.size)) (Nat.le_refl _) _).put (HBK.out (Nat.le_refl W.heap.size)) (Nat.le_refl _) _).put (HBK.out (Nat.le_refl W.heap.size)) (Nat.le_refl _) _).put (HBK.out (Nat.le_refl W.heap.size)) (Nat.le_refl _) _).put (HBK.out (Nat.le_refl W.heap.size)) (Nat.le_refl _) _).put (HBK.out (Nat.le_refl W.heap.size)) (Nat.le_refl _) _).put (HBK.out (Nat.le_refl W.heap.size)) (Nat.le_refl _) _).put (HBK.out (Nat.le_refl W.heap.size)) (Nat.le_refl _) _).put (HBK.out (Nat.le_refl W.heap.size)) (Nat.le_refl _) _), hj5⟩
    have HS3 : Hid (∀ w1, Rdr P _ ts q true w1 → Calls Tryz.prog 56 #[.pointer (some ⟨P, 0, none⟩), .int .u8 1, .string ⟨#[111, 117, 116]⟩] w1 fun e w' => e = .returned (.bool false) ∧ Below w1.heap.size w1 w') := fun w1 h1 => by { have := HISK.out w1 [111, 117, 116] ⟨by decide, Or.inl ⟨rfl, by decide⟩⟩ h1; rw [decide_eq_false t3] at this; exact this }
    have HEN : Hid (∀ b5 j5, Follows false q (textR ts [59]) () b5 j5 → Follows true q (itemR ts) ⟨0, [], [], [], noPlc_k, noPlc_k, pl⟩ b5 j5) := fun _ _ h5 => by rw [← hPL]; exact follows_body (follows_none t0 t1 t2 t3 _) h5
    clear hPL t0 t1 t2 t3
    go_wp2_with (first
      | (go_at_call 54; (with_reducible refine (HMS.out _ _ _ G0.out.par hi).mono ?_); rintro e wc ⟨rfl, b5, j5, F5, hg, hj5⟩; have GC := hidden (G0.out.trans hg); have BC := B0.out.grown hg.grown (fun e => (HBK.out HIW.out).2 (Option.some.inj e).symm); have RC := R0.out.grown hg.grown (fun e => (HBK.out (Nat.le_refl W.heap.size)).2 (Option.some.inj e).symm); have c0 : wc.cell? ⟨I, 0, none⟩ = some (.int .u8 0) := BC.cell (k := 0) rfl; have r0 : wc.cell? ⟨W.heap.size, 0, none⟩ = some (.int .u8 0) := RC.cell (k := 0) rfl; have f0 := RC.frozen 0; have c1 : wc.cell? ⟨I, 1, none⟩ = some (.string ⟨#[]⟩) := BC.cell (k := 1) rfl; have r1 : wc.cell? ⟨W.heap.size, 1, none⟩ = some (.string ⟨#[]⟩) := RC.cell (k := 1) rfl; have f1 := RC.frozen 1; have c2 : wc.cell? ⟨I, 2, none⟩ = some (.string ⟨#[]⟩) := BC.cell (k := 2) rfl; have r2 : wc.cell? ⟨W.heap.size, 2, none⟩ = some (.string ⟨#[]⟩) := RC.cell (k := 2) rfl; have f2 := RC.frozen 2; have c3 : wc.cell? ⟨I, 3, none⟩ = some (.slice none 0 0) := BC.cell (k := 3) rfl; have r3 : wc.cell? ⟨W.heap.size, 3, none⟩ = some (.slice none 0 0) := RC.cell (k := 3) rfl; have f3 := RC.frozen 3; have c4 : wc.cell? ⟨I, 4, none⟩ = some (.string ⟨#[]⟩) := BC.cell (k := 4) rfl; have r4 : wc.cell? ⟨W.heap.size, 4, none⟩ = some (.string ⟨#[]⟩) := RC.cell (k := 4) rfl; have f4 := RC.frozen 4; have c5 : wc.cell? ⟨I, 5, none⟩ = some (.int .i64 0) := BC.cell (k := 5) rfl; have r5 : wc.cell? ⟨W.heap.size, 5, none⟩ = some (.int .i64 0) := RC.cell (k := 5) rfl; have f5 := RC.frozen 5; have c6 : wc.cell? ⟨I, 6, none⟩ = some (.int .i64 0) := BC.cell (k := 6) rfl; have r6 : wc.cell? ⟨W.heap.size, 6, none⟩ = some (.int .i64 0) := RC.cell (k := 6) rfl; have f6 := RC.frozen 6; have c7 : wc.cell? ⟨I, 7, none⟩ = some (.string ⟨#[]⟩) := BC.cell (k := 7) rfl; have r7 : wc.cell? ⟨W.heap.size, 7, none⟩ = some (.string ⟨#[]⟩) := RC.cell (k := 7) rfl; have f7 := RC.frozen 7; have c8 : wc.cell? ⟨I, 8, none⟩ = some (.int .i64 0) := BC.cell (k := 8) rfl; have r8 : wc.cell? ⟨W.heap.size, 8, none⟩ = some (.int .i64 0) := RC.cell (k := 8) rfl; have f8 := RC.frozen 8; have c9 : wc.cell? ⟨I, 9, none⟩ = some (.int .i64 0) := BC.cell (k := 9) rfl; have r9 : wc.cell? ⟨W.heap.size, 9, none⟩ = some (.int .i64 0) := RC.cell (k := 9) rfl; have f9 := RC.frozen 9; have c10 : wc.cell? ⟨I, 10, none⟩ = some (.int .i64 pl) := BC.cell (k := 10) rfl; have r10 : wc.cell? ⟨W.heap.size, 10, none⟩ = some (.int .i64 0) := RC.cell (k := 10) rfl; have f10 := RC.frozen 10; clear BC RC hg)
      | (go_at_call 56; (with_reducible refine (HS3.out _ GA3.out.par).mono ?_); rintro e u4 ⟨rfl, hb⟩; have GA4 := hidden (GA3.out.later hb); have BA4 := hidden (BA3.out.below hb); have RA4 := hidden (RA3.out.below hb); have p2 := GA4.out.par.c2; have pf2 := GA4.out.par.fz 2; have G0 : Hid (RGo P _ ts q false W (u4.setCell ⟨P, 2, none⟩ (.bool false))) := GA4.out.trans (GA4.out.par.setOk false); have B0 : Hid (Blk 103 I (u4.setCell ⟨P, 2, none⟩ (.bool false)) (itC_k 0 [] [] (.slice none 0 0) noPlc_k noPlc_k pl)) := BA4.out.other (fun e => (HBK.out HIW.out).2 e.symm) _; have R0 : Hid (Blk 103 W.heap.size (u4.setCell ⟨P, 2, none⟩ (.bool false)) #[.int .u8 0, .string ⟨#[]⟩, .string ⟨#[]⟩, .slice none 0 0, .string ⟨#[]⟩, .int .i64 0, .int .i64 0, .string ⟨#[]⟩, .int .i64 0, .int .i64 0, .int .i64 0]) := (RA4.out.other (fun e => (HBK.out (Nat.le_refl W.heap.size)).2 e.symm) _); clear hb)
      | (go_at_call 56; (with_reducible refine (HS2.out _ GA2.out.par).mono ?_); rintro e u3 ⟨rfl, hb⟩; have GA3 := hidden (GA2.out.later hb); have BA3 := hidden (BA2.out.below hb); have RA3 := hidden (RA2.out.below hb); clear hb)
      | (go_at_call 56; (with_reducible refine (HS1.out _ GA1.out.par).mono ?_); rintro e u2 ⟨rfl, hb⟩; have GA2 := hidden (GA1.out.later hb); have BA2 := hidden (BA1.out.below hb); have RA2 := hidden (RA1.out.below hb); clear hb)
      | (go_at_call 56; (with_reducible refine (HS0.out _ GA0.out.par).mono ?_); rintro e u1 ⟨rfl, hb⟩; have GA1 := hidden (GA0.out.later hb); have BA1 := hidden (BA0.out.below hb); have RA1 := hidden (RA0.out.below hb); clear hb))
    exact bodyPost_ret (v := .agg (itC_k 0 [] [] (.slice none 0 0) noPlc_k noPlc_k pl)) (by simp [results, Tryz.results57, go_sem, r0, r1, r2, r3, r4, r5, r6, r7, r8, r9, r10, itC_k, noPlc_k]; rfl) rfl ⟨⟨0, [], [], [], noPlc_k, noPlc_k, pl⟩, none, 0, b5, j5, rfl, World.ownsRow_nil _ _ _ _, HEN.out _ _ F5, (((((((((((GC.out.put (HBK.out (Nat.le_refl W.heap.size)) (Nat.le_refl _) _).put (HBK.out (Nat.le_refl W.heap.size)) (Nat.le_refl _) _).put (HBK.out (Nat.le_refl W.heap.size)) (Nat.le_refl _) _).put (HBK.out (Nat.le_refl W.heap.size)) (Nat.le_refl _) _).put (HBK.out (Nat.le_refl W.heap.size)) (Nat.le_refl _) _).put (HBK.out (Nat.le_refl W.heap.size)) (Nat.le_refl _) _).put (HBK.out (Nat.le_refl W.heap.size)) (Nat.le_refl _) _).put (HBK.out (Nat.le_refl W.heap.size)) (Nat.le_refl _) _).put (HBK.out (Nat.le_refl W.heap.size)) (Nat.le_refl _) _).put (HBK.out (Nat.le_refl W.heap.size)) (Nat.le_refl _) _).put (HBK.out (Nat.le_refl W.heap.size)) (Nat.le_refl _) _), hj5⟩
end Go.Proofs.YtolpelfdhcccnaaGreatDoor
