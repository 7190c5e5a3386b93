/- Texts of one chain, laid one behind the other. -/
import Derived.Test.YtdjplmlfcolklaaPartCodeChecks13
import Derived.Test.YtdjplmlfcolklaaPartCodeChecks14
import Derived.Lib.AppendStr
import Derived.Lib.VarintBits
import Derived.Lib.Zigzag
import Derived.Lib.Varint
namespace Go.Proofs.Ytdjplmlfcolklaa
open Go.Lib Go.ChangeShapes Go.WideShapes Go.ChangeAt Go.RowKit
theorem Try.infoByC : (Try.prog.info? 5).map (fun i => (i.zero, i.size, i.bytes)) = some (some (.int .u8 0), 1, 1) := by kernel_rfl
def byV (b : UInt8) : List Value := [.int .u8 (b.toNat : Int)]
theorem byV_len (b) : (byV b).length = 1 := rfl
theorem byV_one (b : UInt8) : ∀ u ∈ byV b, u.oneCell' = true := by
  intro u hu; simp only [byV, List.mem_singleton] at hu; subst hu; rfl
/-- A writer as it lies at K. -/
structure WrA (B K : Nat) (w : World) (l : List UInt8) (a : Option Addr) (c : Nat) : Prop where
  box : BlkA 67 K w #[.slice a l.length c]
  own : CapV 5 byV 1 B w a c l
  apart : ∀ x, a = some x → x.block ≠ K
  le : B ≤ K
theorem WrA.below {B K w w' l a c} (h : WrA B K w l a c) (hb : Below w.heap.size w w') : WrA B K w' l a c := ⟨h.box.below hb, h.own.later hb, h.apart, h.le⟩
/-- The row has grown and lies in the field: the writer anew. -/
theorem WrA.grown {B K w w' l l' a c d k} (h : WrA B K w l a c) (hg : GrwV 5 byV 1 B w a l' w' d k) : WrA B K (w'.setCell ⟨K, 0, none⟩ (.slice d l'.length k)) l' d k := by
  have hK : ∀ x, d = some x → x.block ≠ K := fun x hx => by
    rcases hg.new x hx with e | e
    · exact h.apart x e
    · have := h.box.lt; omega
  exact ⟨(h.box.keep (hg.keep K h.box.lt (fun y hy => h.apart y hy))).set 0 _, hg.own.but (But.set _ _ _ _) hK, hK, h.le⟩
/-- The writer has written on: all old blocks stay but K and its row's, and its row is the old one or lies in a new block. -/
structure WrN (B K : Nat) (w : World) (a : Option Addr) (w' : World) (l' : List UInt8) (a' : Option Addr) (c' : Nat) : Prop where
  wr : WrA B K w' l' a' c'
  sta : StaV K a w w'
  new : ∀ z, a' = some z → a = some z ∨ w.heap.size ≤ z.block
def WrG (B K : Nat) (w : World) (a : Option Addr) (w' : World) (l' : List UInt8) : Prop := ∃ a' c', WrN B K w a w' l' a' c'
theorem WrN.refl {B K w l a c} (h : WrA B K w l a c) : WrN B K w a w l a c := ⟨h, .of_below (Below.refl _ _), fun _ hz => .inl hz⟩
theorem WrN.below {B K w a w' l' a' c' w''} (h : WrN B K w a w' l' a' c') (hb : Below w'.heap.size w' w'') : WrN B K w a w'' l' a' c' := ⟨h.wr.below hb, h.sta.later hb, h.new⟩
theorem WrN.trans {B K w a w1 l1 a1 c1 w2 l2 a2 c2} (h : WrN B K w a w1 l1 a1 c1) (k : WrN B K w1 a1 w2 l2 a2 c2) : WrN B K w a w2 l2 a2 c2 := by
  refine ⟨k.wr, ⟨k.sta.os.trans h.sta.os, k.sta.tape.trans h.sta.tape, k.sta.output.trans h.sta.output, Nat.le_trans h.sta.size k.sta.size, fun i hi h1 h2 => ?_⟩, fun z hz => ?_⟩
  · refine (k.sta.block i (by have := h.sta.size; omega) h1 (fun y hy => ?_)).trans (h.sta.block i hi h1 h2)
    rcases h.new y hy with e | e
    · exact h2 y e
    · omega
  · rcases k.new z hz with e | e
    · exact h.new z e
    · exact .inr (Nat.le_trans h.sta.size e)
theorem WrN.step {B K w l a c w' l' d k} (h : WrA B K w l a c) (hg : GrwV 5 byV 1 B w a l' w' d k) : WrN B K w a (w'.setCell ⟨K, 0, none⟩ (.slice d l'.length k)) l' d k :=
  ⟨h.grown hg, (StaV.set ⟨hg.os, hg.tape, hg.output, hg.size, fun i hi _ h2 => hg.keep i hi h2⟩ 0 _), hg.new⟩
theorem WrN.bel {B K w l a c w' l' a' c'} (h : WrA B K w l a c) (k : WrN B K w a w' l' a' c') (hB : B ≤ w.heap.size) : Below B w w' := k.sta.below h.le (fun y hy => (h.own.lt y hy).1) hB
set_option maxRecDepth 100000 in
set_option maxHeartbeats 4000000 in
theorem wrNumber_any (B K : Nat) (w : World) (l : List UInt8) (a : Option Addr) (c : Nat) (h : WrA B K w l a c) (hB : B ≤ w.heap.size) (n : Nat) (hn : n < 18446744073709551616) (hl : l.length ≤ 10000000000) :
    Calls Try.prog 77 #[.pointer (some ⟨K, 0, none⟩), .int .u64 (n : Int)] w fun e w' => e = .returned (.tuple #[]) ∧ WrG B K w a w' (l ++ uvarint n) := by
  obtain ⟨PE, hPE⟩ : ∃ Q : Ending → World → Prop, (fun e w' => e = .returned (.tuple #[]) ∧ WrG B K w a w' (l ++ uvarint n)) = Q := ⟨_, rfl⟩
  rw [hPE]
  have HPE := hiddenC hPE
  have H := hiddenC h
  have HB := hiddenC hB
  have HN := hiddenC hn
  have HL : Hid (l.length + (uvarint n).length ≤ 10000000010) := by have := Lib.uvarint_length64 hn; show _ ≤ _; omega
  clear hPE h hB hn hl
  go_enter Try.func77, Try.ntmps77
  go_wp2
  go_loopg [1] n (fun gk u wr => ∃ (m : Nat) (pre : List UInt8) (a' : Option Addr) (c' : Nat), m = gk ∧ u = .int .u64 (m : Int) ∧ m ≤ n ∧ l ++ uvarint n = pre ++ uvarint m ∧ WrN B K w a wr pre a' c')
  case atStart => exact ⟨n, l, a, c, rfl, rfl, Nat.le_refl _, rfl, .refl H.out⟩
  case round =>
    obtain ⟨m, pre, a1, c1, rfl, rfl, hm, he, hN0⟩ := hrel
    have hW := hN0.wr
    have HE := hiddenC he
    have HW := hiddenC hW
    have HBW := hiddenC hN0
    have PL : Hid (pre.length ≤ 100000000000) := by
      have q := congrArg List.length he
      rw [List.length_append, List.length_append] at q
      have := HL.out
      show _ ≤ _; omega
    have BQ : Hid (B ≤ wr.heap.size) := Nat.le_trans HB.out hN0.sta.size
    have y0 := hW.box.cell (k := 0) rfl
    simp only [List.getElem_toArray, List.getElem_cons_zero] at y0
    have hmn : m < 18446744073709551616 := Nat.lt_of_le_of_lt hm HN.out
    obtain ⟨N, hN⟩ : ∃ N, pre.length = N := ⟨_, rfl⟩
    have HNN := hiddenC hN
    rw [hN] at y0
    clear he hW hN0 hN
    by_cases h128 : 128 ≤ m
    · have hmi : (m : Int) ≥ 128 := by omega
      obtain ⟨x, hxe⟩ : ∃ x : UInt8, (m % 128 + 128).toUInt8 = x := ⟨_, rfl⟩
      obtain ⟨v, hv⟩ : ∃ v : Int, ((m % 128 + 128 : Nat) : Int) = v := ⟨_, rfl⟩
      have hor : bits .or .u8 ((m : Int) % 256) 128 = v := by
        rw [Lib.u8_or128_any _ (by omega) (by omega), ← hv]
        omega
      have HX : Hid ((x.toNat : Int) = v) := by
        show _ = _
        rw [← hxe, u8_nat (by omega), hv]
      have HE2 : Hid (l ++ uvarint n = (pre ++ [x]) ++ uvarint (m / 128)) := by
        show _ = _
        rw [HE.out, uvarint_big h128, hxe, List.append_assoc]; rfl
      have hlt : m / 128 < m := by omega
      clear HE hxe hv h128
      have b1 : Hid (Below wr.heap.size wr (wr.alloc (.cells #[.int .u8 v] 5))) := (Below.refl _ _).alloc (Nat.le_refl _) _
      have HA := hiddenC (HW.out.below b1.out)
      have CX : Hid (∀ j u, (byV x)[j]? = some u → (wr.alloc (.cells #[.int .u8 v] 5)).cell? ⟨wr.heap.size, j, none⟩ = some u) := fun j u hu => by
        obtain ⟨q, -, -, -⟩ : True ∧ True ∧ True ∧ True := ⟨trivial, trivial, trivial, trivial⟩
        refine (blkA_new 5 wr #[.int .u8 v]).cell ?_
        have e : byV x = [.int .u8 v] := by unfold byV; rw [HX.out]
        rw [e] at hu
        rw [← Array.getElem?_toList]; exact hu
      have BQ2 : Hid (B ≤ (wr.alloc (.cells #[.int .u8 v] 5)).heap.size) := Nat.le_trans BQ.out b1.out.size
      have y1 := HA.out.box.cell (k := 0) rfl
      simp only [List.getElem_toArray, List.getElem_cons_zero] at y1
      rw [HNN.out] at y1
      go_wp2_with (at_builtin; refine wpList_appV rfl _ _ 64 rfl Try.underlying64 (.int .u8 0) 1 Try.infoByC rfl (by decide) (by decide) byV_len B a1 c1 pre N HNN.out rfl HA.out.own wr.heap.size x rfl CX.out (byV_one _) (by have := PL.out; have := HNN.out; omega) BQ2.out ?_; intro d k w5 hg; have HG := hiddenC hg; have HGR := hiddenC ((HBW.out.below b1.out).trans (WrN.step HA.out hg)); have y5 := (HA.out.box.keep (hg.keep K HA.out.box.lt (fun y hy => HA.out.apart y hy))).cell (k := 0) rfl; have f5 := (HA.out.box.keep (hg.keep K HA.out.box.lt (fun y hy => HA.out.apart y hy))).frozen 0; simp only [List.getElem_toArray, List.getElem_cons_zero] at y5; rw [HNN.out] at y5; have LN : (pre ++ [x]).length = N + 1 := by { rw [List.length_append, HNN.out]; rfl }; rw [LN] at HGR; clear hg LN y1)
      go_roundg (m / 128)
      case measure => exact hlt
      case rel => exact ⟨m / 128, pre ++ [x], d, k, rfl, by go_num, by omega, HE2.out, by have := HGR.out; exact this⟩
    · have hmi : ¬ (m : Int) ≥ 128 := by omega
      obtain ⟨x, hxe⟩ : ∃ x : UInt8, m.toUInt8 = x := ⟨_, rfl⟩
      obtain ⟨v, hv⟩ : ∃ v : Int, (m : Int) = v := ⟨_, rfl⟩
      have HX : Hid ((x.toNat : Int) = v) := by
        show _ = _
        rw [← hxe, u8_nat (by omega), hv]
      have HE2 : Hid (l ++ uvarint n = pre ++ [x]) := by
        show _ = _
        rw [HE.out, uvarint_small (by omega), hxe]
      have hvr : 0 ≤ v ∧ v < 128 := by omega
      have hvw : IntKind.u8.wrap v = v := by rw [IntKind.wrap_u8]; omega
      have hvm : v % 256 = v := by omega
      rw [hv] at hmi ⊢
      clear HE hxe hv h128 hmn hm
      have b1 : Hid (Below wr.heap.size wr (wr.alloc (.cells #[.int .u8 v] 5))) := (Below.refl _ _).alloc (Nat.le_refl _) _
      have HA := hiddenC (HW.out.below b1.out)
      have CX : Hid (∀ j u, (byV x)[j]? = some u → (wr.alloc (.cells #[.int .u8 v] 5)).cell? ⟨wr.heap.size, j, none⟩ = some u) := fun j u hu => by
        obtain ⟨q, -, -, -⟩ : True ∧ True ∧ True ∧ True := ⟨trivial, trivial, trivial, trivial⟩
        refine (blkA_new 5 wr #[.int .u8 v]).cell ?_
        have e : byV x = [.int .u8 v] := by unfold byV; rw [HX.out]
        rw [e] at hu
        rw [← Array.getElem?_toList]; exact hu
      have BQ2 : Hid (B ≤ (wr.alloc (.cells #[.int .u8 v] 5)).heap.size) := Nat.le_trans BQ.out b1.out.size
      have y1 := HA.out.box.cell (k := 0) rfl
      simp only [List.getElem_toArray, List.getElem_cons_zero] at y1
      rw [HNN.out] at y1
      go_wp2_with (at_builtin; refine wpList_appV rfl _ _ 64 rfl Try.underlying64 (.int .u8 0) 1 Try.infoByC rfl (by decide) (by decide) byV_len B a1 c1 pre N HNN.out rfl HA.out.own wr.heap.size x rfl CX.out (byV_one _) (by have := PL.out; have := HNN.out; omega) BQ2.out ?_; intro d k w5 hg; have HG := hiddenC hg; have HGR := hiddenC ((HBW.out.below b1.out).trans (WrN.step HA.out hg)); have y5 := (HA.out.box.keep (hg.keep K HA.out.box.lt (fun y hy => HA.out.apart y hy))).cell (k := 0) rfl; have f5 := (HA.out.box.keep (hg.keep K HA.out.box.lt (fun y hy => HA.out.apart y hy))).frozen 0; simp only [List.getElem_toArray, List.getElem_cons_zero] at y5; rw [HNN.out] at y5; have LN : (pre ++ [x]).length = N + 1 := by { rw [List.length_append, HNN.out]; rfl }; rw [LN] at HGR; clear hg LN y1)
      refine bodyPost_end (v := .tuple #[]) (by simp [results, Try.results77, go_sem]) rfl ?_
      rw [← HPE.out, HE2.out]
      exact ⟨rfl, _, _, by have := HGR.out; exact this⟩
theorem nth_memC {zs : List Int} {k : Nat} (hk : k < zs.length) : nth zs k ∈ zs := by
  unfold nth
  rw [List.getD_eq_getElem?_getD, List.getElem?_eq_getElem hk]
  exact List.getElem_mem hk
theorem enc_prefix {l X Y Z : List UInt8} (h : l ++ X = Y ++ Z) : Y.length ≤ l.length + X.length := by
  have := congrArg List.length h
  rw [List.length_append, List.length_append] at this
  omega
theorem xor_u64_zero (x : Int) (h0 : 0 ≤ x) (h1 : x < 18446744073709551616) : bits .xor .u64 x 0 = x := by
  obtain ⟨n, rfl⟩ := Int.eq_ofNat_of_zero_le h0
  have := bits_xor_u64_nat n 0 (by omega) (by decide)
  simpa using this
theorem xor_u64_ones (x : Int) (h0 : 0 ≤ x) (h1 : x < 18446744073709551616) : bits .xor .u64 x 18446744073709551615 = 18446744073709551615 - x := by
  obtain ⟨n, rfl⟩ := Int.eq_ofNat_of_zero_le h0
  have e := bits_xor_u64_nat n (2 ^ 64 - 1) (by omega) (by decide)
  rw [Nat.xor_comm, Lib.xor_ones64 _ (by omega)] at e
  have e2 : (((2 : Nat) ^ 64 - 1 : Nat) : Int) = 18446744073709551615 := by decide
  rw [e2] at e
  show bits .xor .u64 (n : Int) 18446744073709551615 = _
  rw [e]
  omega
/-- A row that stays while a writer writes. -/
def OffW (K : Nat) (a an : Option Addr) : Prop := ∀ x, an = some x → x.block ≠ K ∧ ∀ y, a = some y → y.block ≠ x.block
theorem encN_len {z : Int} (h : CntOk z) : (encN z).length ≤ 10 := by
  unfold encN
  exact Lib.uvarint_length64 (by have := h.2; omega)
theorem encZ_len {z : Int} (h : IntOk z) : (encZ z).length ≤ 10 := by
  unfold encZ
  exact Lib.uvarint_length64 (Lib.zigzag_lt h.1 h.2)
theorem encs_len {f : Int → List UInt8} : ∀ zs : List Int, (∀ z ∈ zs, (f z).length ≤ 10) → (zs.flatMap f).length ≤ 10 * zs.length
  | [], _ => Nat.zero_le _
  | z :: zs, h => by
    have h1 := h z (by simp)
    have h2 := encs_len zs fun y hy => h y (by simp [hy])
    rw [List.flatMap_cons, List.length_append, List.length_cons]; omega
set_option maxRecDepth 100000 in
set_option maxHeartbeats 4000000 in
theorem wrCounts_any (B K : Nat) (w : World) (l : List UInt8) (a : Option Addr) (c : Nat) (h : WrA B K w l a c) (hB : B ≤ w.heap.size) (an : Option Addr) (len cn : Nat) (zs : List Int) (hz : At w an zs) (hlen : zs.length = len) (hlb : len ≤ 100000) (hzr : ∀ z ∈ zs, CntOk z) (hab : zs ≠ [] → OffW K a an) (hl : l.length ≤ 1000000000) :
    Calls Try.prog 51 #[.pointer (some ⟨K, 0, none⟩), .slice an len cn] w fun e w' => e = .returned (.tuple #[]) ∧ WrG B K w a w' (l ++ zs.flatMap encN) := by
  obtain ⟨PE, hPE⟩ : ∃ Q : Ending → World → Prop, (fun e w' => e = .returned (.tuple #[]) ∧ WrG B K w a w' (l ++ zs.flatMap encN)) = Q := ⟨_, rfl⟩
  rw [hPE]
  have HPE := hiddenC hPE
  have H := hiddenC h
  have HB := hiddenC hB
  have HZ := hiddenC hz
  have HLEN := hiddenC hlen
  have HR := hiddenC hzr
  have HAB := hiddenC hab
  have HLL : Hid (l.length + (zs.flatMap encN).length ≤ 1001000000) := by
    have := encs_len (f := encN) zs (fun z hz => encN_len (hzr z hz))
    show _ ≤ _; omega
  clear hPE h hB hz hlen hzr hab hl
  go_enter Try.func51, Try.ntmps51
  go_wp2
  go_loopg [8] len (fun gk u wr => ∃ (k : Nat) (pre : List UInt8) (a' : Option Addr) (c' : Nat), k ≤ len ∧ gk = len - k ∧ u = .int .i64 (k : Int) ∧ l ++ zs.flatMap encN = pre ++ (zs.drop k).flatMap encN ∧ WrN B K w a wr pre a' c')
  case atStart => exact ⟨0, l, a, c, Nat.zero_le _, rfl, rfl, by rw [List.drop_zero], .refl H.out⟩
  case round =>
    obtain ⟨k, pre, a1, c1, hk, rfl, rfl, he, hN⟩ := hrel
    have HE := hiddenC he
    have HN := hiddenC hN
    have PL : Hid (pre.length ≤ 10000000000) := by have := enc_prefix he; have := HLL.out; show _ ≤ _; omega
    have BQ : Hid (B ≤ wr.heap.size) := Nat.le_trans HB.out hN.sta.size
    clear he hN
    by_cases hlt : k < len
    · have hki : (k : Int) < (len : Int) := by omega
      have hkL : k < zs.length := by rw [HLEN.out]; exact hlt
      rcases HZ.out with e1 | ⟨ab, off, rfl, hc⟩
      · rw [e1] at hkL; exact absurd hkL (Nat.not_lt_zero _)
      have c0 := HN.out.sta.cell (hc k hkL) (HAB.out (fun e => by rw [e] at hkL; exact absurd hkL (Nat.not_lt_zero _)) _ rfl).1 (HAB.out (fun e => by rw [e] at hkL; exact absurd hkL (Nat.not_lt_zero _)) _ rfl).2
      have hr := HR.out _ (nth_memC hkL)
      have HE2 := HE.out
      rw [drop_nth _ _ hkL, List.flatMap_cons, ← List.append_assoc] at HE2
      obtain ⟨z, hze⟩ : ∃ z, nth zs k = z := ⟨_, rfl⟩
      rw [hze] at c0 hr HE2
      obtain ⟨m, rfl⟩ : ∃ m : Nat, z = (m : Int) := ⟨z.toNat, by have := hr.1; omega⟩
      have hm : m < 2097152 := by have := hr.2; omega
      have NU := hiddenC (wrNumber_any B K wr pre a1 c1 HN.out.wr BQ.out m (by omega) PL.out)
      have HE3 : Hid (l ++ zs.flatMap encN = (pre ++ uvarint m) ++ (zs.drop (k + 1)).flatMap encN) := HE2
      have hw : IntKind.u64.wrap (m : Int) = (m : Int) := by rw [IntKind.wrap_u64]; omega
      clear HE HE2 hc hr hze hkL
      go_wp2_with (go_at_call 77; (with_reducible refine NU.out.mono ?_); rintro e w2 ⟨rfl, a2, c2, h2⟩; have H2 := hiddenC (HN.out.trans h2); clear h2)
      go_roundg (len - (k + 1))
      case measure => omega
      case rel => exact ⟨k + 1, _, _, _, by omega, rfl, by go_num, HE3.out, H2.out⟩
    · have hki : ¬ (k : Int) < (len : Int) := by omega
      have HE2 := HE.out
      rw [List.drop_eq_nil_of_le (by rw [HLEN.out]; omega), List.flatMap_nil, List.append_nil] at HE2
      have HE3 := hiddenC HE2
      clear HE HE2
      go_wp2
      refine bodyPost_end (v := .tuple #[]) (by simp [results, Try.results51, go_sem]) rfl ?_
      rw [← HPE.out, HE3.out]
      exact ⟨rfl, _, _, HN.out⟩
set_option maxRecDepth 100000 in
set_option maxHeartbeats 4000000 in
theorem wrInts_any (B K : Nat) (w : World) (l : List UInt8) (a : Option Addr) (c : Nat) (h : WrA B K w l a c) (hB : B ≤ w.heap.size) (an : Option Addr) (len cn : Nat) (zs : List Int) (hz : At w an zs) (hlen : zs.length = len) (hlb : len ≤ 100000) (hzr : ∀ z ∈ zs, IntOk z) (hab : zs ≠ [] → OffW K a an) (hl : l.length ≤ 1000000000) :
    Calls Try.prog 52 #[.pointer (some ⟨K, 0, none⟩), .slice an len cn] w fun e w' => e = .returned (.tuple #[]) ∧ WrG B K w a w' (l ++ encL zs) := by
  obtain ⟨PE, hPE⟩ : ∃ Q : Ending → World → Prop, (fun e w' => e = .returned (.tuple #[]) ∧ WrG B K w a w' (l ++ encL zs)) = Q := ⟨_, rfl⟩
  rw [hPE]
  have HPE := hiddenC hPE
  have H := hiddenC h
  have HB := hiddenC hB
  have HZ := hiddenC hz
  have HLEN := hiddenC hlen
  have HR := hiddenC hzr
  have HAB := hiddenC hab
  have ba := (Below.refl w.heap.size w).alloc (Nat.le_refl _) (.cells #[.int .i64 (len : Int)] 3)
  have BA := hiddenC ba
  have HA := hiddenC (h.below ba)
  have hlc : CntOk ((len : Nat) : Int) := ⟨by omega, by omega⟩
  have CT := hiddenC (wrCounts_any B K _ l a c HA.out (Nat.le_trans hB ba.size) (some ⟨w.heap.size, 0, none⟩) 1 1 [(len : Int)] (.inr ⟨_, _, rfl, fun k hk => by
    have hk0 : k = 0 := by simp only [List.length_singleton] at hk; omega
    subst hk0
    exact (blkA_new 3 w #[.int .i64 (len : Int)]).cell rfl⟩) rfl (by decide) (fun z hz => by rw [List.mem_singleton.1 hz]; exact hlc) (fun _ x hx => by
      cases hx
      refine ⟨?_, fun y hy => ?_⟩
      · have := h.box.lt; show w.heap.size ≠ K; omega
      · have := (h.own.lt y hy).2; show y.block ≠ w.heap.size; omega) (by omega))
  have HEL : Hid (l ++ encL zs = (l ++ [(len : Int)].flatMap encN) ++ zs.flatMap encZ) := by
    show _ = _
    unfold encL encN
    rw [hlen]; simp
  obtain ⟨l2, hl2⟩ : ∃ l2, l ++ [(len : Int)].flatMap encN = l2 := ⟨_, rfl⟩
  have hl2l : l2.length ≤ l.length + 10 := by
    rw [← hl2, List.length_append]
    have := encs_len (f := encN) [(len : Int)] (fun z hz => by rw [List.mem_singleton.1 hz]; exact encN_len hlc)
    simp only [List.length_singleton] at this
    omega
  rw [hl2] at CT HEL
  have HLL : Hid (l2.length + (zs.flatMap encZ).length ≤ 1001000010) := by
    have := encs_len (f := encZ) zs (fun z hz => encZ_len (hzr z hz))
    show _ ≤ _; omega
  clear hPE h hB hz hlen hzr hab hl ba hl2 hl2l hlc
  go_enter Try.func52, Try.ntmps52
  go_upto_region 1 with (go_at_call 51; (with_reducible refine CT.out.mono ?_); rintro e w1 ⟨rfl, a1, c1, h1⟩; have H1 := hiddenC ((WrN.refl H.out).below BA.out |>.trans h1); clear h1)
  go_wp2
  go_loopg [13] len (fun gk u wr => ∃ (k : Nat) (pre : List UInt8) (a' : Option Addr) (c' : Nat), k ≤ len ∧ gk = len - k ∧ u = .int .i64 (k : Int) ∧ l2 ++ zs.flatMap encZ = pre ++ (zs.drop k).flatMap encZ ∧ WrN B K w a wr pre a' c')
  case atStart => exact ⟨0, l2, a1, c1, Nat.zero_le _, rfl, rfl, by rw [List.drop_zero], H1.out⟩
  case round =>
    obtain ⟨k, pre, a2, c2, hk, rfl, rfl, he, hN⟩ := hrel
    have HE := hiddenC he
    have HN := hiddenC hN
    have PL : Hid (pre.length ≤ 10000000000) := by have := enc_prefix he; have := HLL.out; show _ ≤ _; omega
    have BQ : Hid (B ≤ wr.heap.size) := Nat.le_trans HB.out hN.sta.size
    clear he hN
    by_cases hlt : k < len
    · have hki : (k : Int) < (len : Int) := by omega
      have hkL : k < zs.length := by rw [HLEN.out]; exact hlt
      rcases HZ.out with e1 | ⟨ab, off, rfl, hc⟩
      · rw [e1] at hkL; exact absurd hkL (Nat.not_lt_zero _)
      have c0 := HN.out.sta.cell (hc k hkL) (HAB.out (fun e => by rw [e] at hkL; exact absurd hkL (Nat.not_lt_zero _)) _ rfl).1 (HAB.out (fun e => by rw [e] at hkL; exact absurd hkL (Nat.not_lt_zero _)) _ rfl).2
      have hr := HR.out _ (nth_memC hkL)
      have HE2 := HE.out
      rw [drop_nth _ _ hkL, List.flatMap_cons, ← List.append_assoc] at HE2
      obtain ⟨z, hze⟩ : ∃ z, nth zs k = z := ⟨_, rfl⟩
      rw [hze] at c0 hr HE2
      have NU := hiddenC (wrNumber_any B K wr pre a2 c2 HN.out.wr BQ.out (zigzag z) (Lib.zigzag_lt hr.1 hr.2) PL.out)
      have HE3 : Hid (l2 ++ zs.flatMap encZ = (pre ++ uvarint (zigzag z)) ++ (zs.drop (k + 1)).flatMap encZ) := HE2
      have hzl := Lib.zigzag_lt hr.1 hr.2
      have hr1 := hr.1
      have hr2 := hr.2
      by_cases hz0 : 0 ≤ z
      · have hzz := Lib.zigzag_nonneg hz0
        have hd : z / 9223372036854775808 = 0 := by omega
        have hx1 : bits .xor .u64 (z * 2) 0 = ((zigzag z : Nat) : Int) := by rw [xor_u64_zero _ (by omega) (by omega), hzz]
        have hw1 : IntKind.u64.wrap z = z := by rw [IntKind.wrap_u64]; omega
        have hw2 : IntKind.u64.wrap (z * 2) = z * 2 := by rw [IntKind.wrap_u64]; omega
        generalize zigzag z = q at *
        clear HE HE2 hc hr hze hkL hzz hzl
        go_wp2_with (go_at_call 77; (with_reducible refine NU.out.mono ?_); rintro e w2 ⟨rfl, a3, c3, h2⟩; have H2 := hiddenC (HN.out.trans h2); clear h2)
        go_roundg (len - (k + 1))
        case measure => omega
        case rel => exact ⟨k + 1, _, _, _, by omega, rfl, by go_num, HE3.out, H2.out⟩
      · have hd : z / 9223372036854775808 = -1 := by omega
        have hw1 : IntKind.u64.wrap (IntKind.u64.wrap z * 2) = z * 2 + 18446744073709551616 := by rw [IntKind.wrap_u64, IntKind.wrap_u64]; omega
        have hx1 : bits .xor .u64 (IntKind.u64.wrap (IntKind.u64.wrap z * 2)) (IntKind.u64.wrap (-1)) = ((zigzag z : Nat) : Int) := by
          have hm1 : IntKind.u64.wrap (-1) = 18446744073709551615 := by decide
          rw [hw1, hm1, xor_u64_ones _ (by omega) (by omega)]
          unfold zigzag
          rw [if_neg hz0]
          omega
        clear hw1
        generalize zigzag z = q at *
        clear HE HE2 hc hr hze hkL hzl
        go_wp2_with (go_at_call 77; (with_reducible refine NU.out.mono ?_); rintro e w2 ⟨rfl, a3, c3, h2⟩; have H2 := hiddenC (HN.out.trans h2); clear h2)
        go_roundg (len - (k + 1))
        case measure => omega
        case rel => exact ⟨k + 1, _, _, _, by omega, rfl, by go_num, HE3.out, H2.out⟩
    · have hki : ¬ (k : Int) < (len : Int) := by omega
      have HE2 := HE.out
      rw [List.drop_eq_nil_of_le (by rw [HLEN.out]; omega), List.flatMap_nil, List.append_nil] at HE2
      have HE3 := hiddenC HE2
      clear HE HE2
      go_wp2
      refine bodyPost_end (v := .tuple #[]) (by simp [results, Try.results52, go_sem]) rfl ?_
      rw [← HPE.out, HEL.out, HE3.out]
      exact ⟨rfl, _, _, HN.out⟩
end Go.Proofs.Ytdjplmlfcolklaa
