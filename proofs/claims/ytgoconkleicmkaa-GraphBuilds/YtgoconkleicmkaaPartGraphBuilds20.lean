/- Texts of one chain. -/
import Derived.Test.YtgoconkleicmkaaPartQ
import Derived.Test.YtgoconkleicmkaaPartGraphBuilds18
import Derived.Test.YtgoconkleicmkaaPartGraphBuilds19
set_option maxRecDepth 100000
set_option maxHeartbeats 4000000
namespace Go.Proofs.Ytgoconkleicmkaa
open Go.ChangeShapes Go.WideShapes Go.ChangeAt Go.RowKit
def zI (As : List GA) (k : Nat) : GA := As.getD k ⟨[], 0, []⟩
def yU (Es : List GE) (k : Nat) : GE := Es.getD k ⟨0, 0, 0, 0, []⟩
def zF (Ps : List GP) (k : Nat) : GP := Ps.getD k ⟨[], 0, 0⟩
def YI (w : World) (a : Option Addr) (As : List GA) : Prop := As = [] \/ ∃ b off, a = some ⟨b, off, none⟩ /\ ∀ k, k < As.length -> w.cell? ⟨b, off + k * 3, none⟩ = some (.string (zW (zI As k).name)) /\ w.cell? ⟨b, off + k * 3 + 1, none⟩ = some (.int .u8 ((zI As k).tag : Int)) /\ (zI As k).tag <= 255 /\ ∃ x c, w.cell? ⟨b, off + k * 3 + 2, none⟩ = some (.slice x (zI As k).params.length c) /\ At w x (zI As k).params
def VG (w : World) (a : Option Addr) (Es : List GE) : Prop := Es = [] \/ ∃ b off, a = some ⟨b, off, none⟩ /\ ∀ k, k < Es.length -> w.cell? ⟨b, off + k * 5, none⟩ = some (.int .i64 (yU Es k).f) /\ w.cell? ⟨b, off + k * 5 + 1, none⟩ = some (.int .i64 (yU Es k).fp) /\ w.cell? ⟨b, off + k * 5 + 2, none⟩ = some (.int .i64 (yU Es k).t) /\ w.cell? ⟨b, off + k * 5 + 3, none⟩ = some (.int .i64 (yU Es k).tp) /\ ∃ x c, w.cell? ⟨b, off + k * 5 + 4, none⟩ = some (.slice x (yU Es k).start.length c) /\ At w x (yU Es k).start
def tO (w : World) (a : Option Addr) (Ps : List GP) : Prop := Ps = [] \/ ∃ b off, a = some ⟨b, off, none⟩ /\ ∀ k, k < Ps.length -> w.cell? ⟨b, off + k * 3, none⟩ = some (.string (zW (zF Ps k).name)) /\ w.cell? ⟨b, off + k * 3 + 1, none⟩ = some (.int .i64 (zF Ps k).actor) /\ w.cell? ⟨b, off + k * 3 + 2, none⟩ = some (.int .i64 (zF Ps k).port)
theorem yF {w w' : World} {p : Addr} {v : Value} (hb : Below w.heap.size w w') (h : w.cell? p = some v) : w'.cell? p = some v := by rw [hb.cell (block_lt_of_cell h)]; exact h
theorem YI.below {w w' : World} {a : Option Addr} {As : List GA} (h : YI w a As) (hb : Below w.heap.size w w') : YI w' a As := by
 rcases h with h | ⟨b, off, e, h⟩
 ·exact .inl h
 refine .inr ⟨b, off, e, fun k hk => ?_⟩
 obtain ⟨h1, h2, h3, x, c, h4, h5⟩ := h k hk
 exact ⟨yF hb h1, yF hb h2, h3, x, c, yF hb h4, h5.below hb⟩
theorem VG.below {w w' : World} {a : Option Addr} {Es : List GE} (h : VG w a Es) (hb : Below w.heap.size w w') : VG w' a Es := by
 rcases h with h | ⟨b, off, e, h⟩
 ·exact .inl h
 refine .inr ⟨b, off, e, fun k hk => ?_⟩
 obtain ⟨h1, h2, h3, h4, x, c, h5, h6⟩ := h k hk
 exact ⟨yF hb h1, yF hb h2, yF hb h3, yF hb h4, x, c, yF hb h5, h6.below hb⟩
theorem tO.below {w w' : World} {a : Option Addr} {Ps : List GP} (h : tO w a Ps) (hb : Below w.heap.size w w') : tO w' a Ps := by
 rcases h with h | ⟨b, off, e, h⟩
 ·exact .inl h
 refine .inr ⟨b, off, e, fun k hk => ?_⟩
 obtain ⟨h1, h2, h3⟩ := h k hk
 exact ⟨yF hb h1, yF hb h2, yF hb h3⟩
def iS (f : FL) : Value := .agg #[.int .i64 f.code, .int .u8 (f.kind : Int), .int .i64 (f.number : Int), .int .u8 (f.stop : Int)]
def iC (F : Nat -> Prop) (w : World) (b : Nat) (r : FL × LS) (e : Ending) (w' : World) : Prop :=
 e = .returned (iS r.1) /\ (r.1.code = 0 -> ∃ F', rB F' w' b r.2 /\ ∀ k, F' k -> F k \/ w.heap.size <= k) /\ xX F w w'
theorem ZX {As : List GA} {i : Nat} (h : i < As.length) : As.drop i = zI As i :: As.drop (i + 1) := by
 unfold zI
 rw [List.getD_eq_getElem?_getD, List.getElem?_eq_getElem h]
 exact List.drop_eq_getElem_cons h
theorem ZW {Es : List GE} {i : Nat} (h : i < Es.length) : Es.drop i = yU Es i :: Es.drop (i + 1) := by
 unfold yU
 rw [List.getD_eq_getElem?_getD, List.getElem?_eq_getElem h]
 exact List.drop_eq_getElem_cons h
theorem jN {Ps : List GP} {i : Nat} (h : i < Ps.length) : Ps.drop i = zF Ps i :: Ps.drop (i + 1) := by
 unfold zF
 rw [List.getD_eq_getElem?_getD, List.getElem?_eq_getElem h]
 exact List.drop_eq_getElem_cons h
theorem tN (ns : List (List UInt8)) (l : List UInt8) : (zL ns l).2.length <= ns.length + 1 := by
 unfold zL; split
 ·simp
 simp
theorem ZV (s : LS) (t : Nat) (zs : List Int) : (xR s t zs).2.ns = s.ns /\ (xR s t zs).2.I.length <= s.I.length + 1 /\ (xR s t zs).2.O.length <= s.O.length + 1 := by
 unfold xR; split
 ·simp
 simp
theorem vA.chg {K : Nat} {F : Nat -> Prop} {w w' : World} (h : vA K w w') (hK : F K) : xX F w w' := ⟨h.os, h.tape, h.output, h.size, fun k hk hn => h.block k hk (fun e => hn (by rw [e]; exact hK))⟩
theorem kZ (F : Nat -> Prop) (w0 w : World) (b : Nat) (s : LS) (a : Option Addr) (As : List GA) (cap : Nat) (h : rB F w b s) (hA : YI w0 a As) (hw : Below w0.heap.size w0 w) (hF : ∀ k, F k -> w0.heap.size <= k) (hn : As.length <= 32) (hns : s.ns.length <= 100) (hI : s.I.length <= 100) (hO : s.O.length <= 100) :
 Calls Try.prog 38 #[.pointer (some ⟨b, 0, none⟩), .slice a As.length cap] w (iC F w b (xO As 0 s)) := by
 have HA := zZ hA
 have HW := zZ hw
 have HF := zZ hF
 have sw := hw.size
 have ba := (Below.refl w.heap.size w).alloc (Nat.le_refl _) (.cells #[.int .i64 0, .int .u8 0, .int .i64 0, .int .u8 0] 52)
 have BA := zZ ba
 have HL := zZ (h.below ba)
 have HLO := zZ h.low
 have NR := zZ (zU 52 w #[.int .i64 0, .int .u8 0, .int .i64 0, .int .u8 0])
 have hsz : (w.alloc (.cells #[.int .i64 0, .int .u8 0, .int .i64 0, .int .u8 0] 52)).heap.size = w.heap.size + 1 := by simp
 have hnI : (As.length : Int) <= 32 := by omega
 clear h hA hw hF ba
 go_enter Try.func38, Try.ntmps38
 go_upto_region 1 with fail
 generalize w.alloc (.cells #[.int .i64 0, .int .u8 0, .int .i64 0, .int .u8 0] 52) = W0 at *
 go_wp2
 go_loopg [10] As.length (fun gk v wr => ∃ (i : Nat) (F' : Nat -> Prop) (s' : LS), i <= As.length /\ gk = As.length - i /\ v = .int .i64 (i : Int) /\ xO As 0 s = xO (As.drop i) i s' /\ rB F' wr b s' /\ (∀ k, F' k -> F k \/ w.heap.size + 1 <= k) /\ xX F W0 wr /\ s'.ns.length <= s.ns.length + i /\ s'.I.length <= s.I.length + i /\ s'.O.length <= s.O.length + i)
 case atStart => exact ⟨0, F, s, Nat.zero_le _, rfl, rfl, rfl, HL.out, fun k hk => .inl hk, xX.of_below (Below.refl _ _), Nat.le_refl _, Nat.le_refl _, Nat.le_refl _⟩
 case round =>
  obtain ⟨i, F', s', hi, rfl, rfl, hEq, hLed, hF', hChg, q1, q2, q3⟩ := hrel
  have HEQ := zZ hEq
  have HLED := zZ hLed
  have HFF := zZ hF'
  have HC := zZ hChg
  have swr := hChg.size
  have HNR : Hid (¬ F' w.heap.size) := fun e => (hF' _ e).elim (fun q => by have := HLO.out _ q; omega) (fun q => by omega)
  have NRW := zZ (NR.out.keep (hChg.block _ (by omega) (fun e => by have := HLO.out _ e; omega)))
  have BW : Hid (Below w0.heap.size w0 wr) := by
   have p1 := HW.out.trans (BA.out.mono sw)
   exact p1.trans (hChg.below HF.out p1.size)
  clear hEq hLed hF' hChg
  by_cases hlt : i < As.length
  ·have hii : (i : Int) < (As.length : Int) := by omega
   rcases HA.out with h0 | ⟨ab, ao, rfl, hc⟩
   ·rw [h0] at hlt; simp at hlt
   obtain ⟨a0', a1', a2, x, c, a3', a4⟩ := hc i hlt
   have a0 := yF BW.out a0'
   have a1 := yF BW.out a1'
   have a3 := yF BW.out a3'
   clear a0' a1' a3'
   have HF0 : Hid (∀ k, F' k -> w0.heap.size <= k) := fun k hk => (HFF.out k hk).elim (HF.out k) (fun q => by omega)
   have HAT := zZ a4
   have HDR := zZ (ZX hlt)
   generalize zI As i = E at *
   obtain ⟨nm, tg, ps⟩ := E
   clear hc a4
   obtain ⟨ce, hce⟩ : ∃ q, (zL s'.ns nm).1 = q := ⟨_, rfl⟩
   have HCE := zZ hce
   have q4 := tN s'.ns nm
   by_cases h1 : ce = 0
   ·subst h1
    obtain ⟨co, hco⟩ : ∃ q, (xR ⟨(zL s'.ns nm).2, s'.I, s'.O⟩ tg ps).1 = q := ⟨_, rfl⟩
    have HCO := zZ hco
    have q5 := ZV ⟨(zL s'.ns nm).2, s'.I, s'.O⟩ tg ps
    by_cases h2 : co = 0
    ·subst h2
     go_wp2_with (first
      | (refine tR _ rfl (.tmp 6) (.tmp 14) rfl rfl wr.heap.size _ _ _ _ _ _ _ _ rfl rfl (zU 61 wr #[.string ⟨#[]⟩, .int .u8 0, .slice none 0 0]) ?_; intro w1 hNA hUA; have X1 := zZ hNA; have b1 := ((Below.refl wr.heap.size wr).alloc (Nat.le_refl _) (.cells #[.string ⟨#[]⟩, .int .u8 0, .slice none 0 0] 61)).trans (hUA.below (Nat.le_refl _) (by simp)); have B1 := zZ b1; have L1 := zZ (HLED.out.below b1); have R1 := zZ (NRW.out.below b1); have y0 : w1.cell? ⟨wr.heap.size, 0, none⟩ = some (.string (zW nm)) := hNA.cell rfl; clear hNA hUA b1 a0 a1 a3)
      | (go_at_call 64; (with_reducible refine (iD F' w2 b _ _ tg x ps _ c L2.out a2 rfl AT2.out (by simp only; omega) (by simp only; omega)).mono ?_); rintro e w3 ⟨G, rfl, hL3, hG3, hC3⟩; have L3 := zZ hL3; have G3 := zZ hG3; have C3 := zZ hC3; clear hL3 hG3 hC3; have R3 := zZ (R2.out.keep (C3.out.block _ R2.out.lt (fun e => HNR.out e))); rw [HCO.out]; clear u0 u1 u2)
      | (go_at_call 63; (with_reducible refine (vN F' w1 b s' _ L1.out (by omega)).mono ?_); rintro e w2 ⟨rfl, hL2, hC2⟩; have L2 := zZ hL2; have C2 := zZ hC2; clear hL2 hC2; have X2 := zZ (X1.out.keep (C2.out.block _ X1.out.lt (fun e => by have := HLED.out.low _ e; omega))); have R2 := zZ (R1.out.keep (C2.out.block _ R1.out.lt (fun e => HNR.out e))); rw [HCE.out]; clear y0; have AT2 : Hid (At w2 x ps) := (have p1 := BW.out.trans (B1.out.mono BW.out.size); HAT.out.below (p1.trans (C2.out.below HF0.out p1.size))); have u0 : w2.cell? ⟨wr.heap.size, 0, none⟩ = some (.string (zW nm)) := X2.out.cell rfl; have u1 : w2.cell? ⟨wr.heap.size, 1, none⟩ = some (.int .u8 (tg : Int)) := X2.out.cell rfl; have u2 : w2.cell? ⟨wr.heap.size, 2, none⟩ = some (.slice x ps.length c) := X2.out.cell rfl))
     go_roundg (As.length - (i + 1))
     case measure => omega
     case rel =>
      refine ⟨i + 1, G, _, by omega, rfl, by go_num, ?_, L3.out, fun k hk => (G3.out k hk).elim (HFF.out k) (fun q => .inr (by have := C2.out.size; have := B1.out.size; omega)), ?_, by rw [q5.1]; show (zL s'.ns nm).2.length <= _; omega, by have h9 : (xR ⟨(zL s'.ns nm).2, s'.I, s'.O⟩ tg ps).2.I.length <= s'.I.length + 1 := q5.2.1; omega, by have h9 : (xR ⟨(zL s'.ns nm).2, s'.I, s'.O⟩ tg ps).2.O.length <= s'.O.length + 1 := q5.2.2; omega⟩
      ·rw [HEQ.out, HDR.out]
       show (if _ then _ else _) = _
       rw [if_pos HCE.out, if_pos HCO.out]
      exact ((HC.out.trans' (xX.of_below B1.out)).trans C2.out fun k hk => (HFF.out k hk).imp id (fun q => by omega)).trans C3.out fun k hk => (HFF.out k hk).imp id (fun q => by omega)
    have e2 : (co != 0) = true := by simpa using h2
    have e3 : ¬ co = 0 := h2
    go_wp2_with (first
     | (refine zQ _ rfl (.tmp 4) (.tmp 28) rfl rfl w.heap.size _ _ _ _ _ _ _ _ rfl rfl R3.out ?_; intro w9 hNF hUF; have NF := zZ hNF; have UF := zZ hUF; clear hNF hUF)
     | (refine tR _ rfl (.tmp 6) (.tmp 14) rfl rfl wr.heap.size _ _ _ _ _ _ _ _ rfl rfl (zU 61 wr #[.string ⟨#[]⟩, .int .u8 0, .slice none 0 0]) ?_; intro w1 hNA hUA; have X1 := zZ hNA; have b1 := ((Below.refl wr.heap.size wr).alloc (Nat.le_refl _) (.cells #[.string ⟨#[]⟩, .int .u8 0, .slice none 0 0] 61)).trans (hUA.below (Nat.le_refl _) (by simp)); have B1 := zZ b1; have L1 := zZ (HLED.out.below b1); have R1 := zZ (NRW.out.below b1); have y0 : w1.cell? ⟨wr.heap.size, 0, none⟩ = some (.string (zW nm)) := hNA.cell rfl; clear hNA hUA b1 a0 a1 a3)
     | (go_at_call 64; (with_reducible refine (iD F' w2 b _ _ tg x ps _ c L2.out a2 rfl AT2.out (by simp only; omega) (by simp only; omega)).mono ?_); rintro e w3 ⟨G, rfl, hL3, hG3, hC3⟩; have L3 := zZ hL3; have G3 := zZ hG3; have C3 := zZ hC3; clear hL3 hG3 hC3; have R3 := zZ (R2.out.keep (C3.out.block _ R2.out.lt (fun e => HNR.out e))); rw [HCO.out]; clear u0 u1 u2)
     | (go_at_call 63; (with_reducible refine (vN F' w1 b s' _ L1.out (by omega)).mono ?_); rintro e w2 ⟨rfl, hL2, hC2⟩; have L2 := zZ hL2; have C2 := zZ hC2; clear hL2 hC2; have X2 := zZ (X1.out.keep (C2.out.block _ X1.out.lt (fun e => by have := HLED.out.low _ e; omega))); have R2 := zZ (R1.out.keep (C2.out.block _ R1.out.lt (fun e => HNR.out e))); rw [HCE.out]; clear y0; have AT2 : Hid (At w2 x ps) := (have p1 := BW.out.trans (B1.out.mono BW.out.size); HAT.out.below (p1.trans (C2.out.below HF0.out p1.size))); have u0 : w2.cell? ⟨wr.heap.size, 0, none⟩ = some (.string (zW nm)) := X2.out.cell rfl; have u1 : w2.cell? ⟨wr.heap.size, 1, none⟩ = some (.int .u8 (tg : Int)) := X2.out.cell rfl; have u2 : w2.cell? ⟨wr.heap.size, 2, none⟩ = some (.slice x ps.length c) := X2.out.cell rfl))
    have z0 : w9.cell? ⟨w.heap.size, 0, none⟩ = some (.int .i64 co) := NF.out.cell rfl
    have z1 : w9.cell? ⟨w.heap.size, 1, none⟩ = some (.int .u8 1) := NF.out.cell rfl
    have z2 : w9.cell? ⟨w.heap.size, 2, none⟩ = some (.int .i64 (i : Int)) := NF.out.cell rfl
    have z3 : w9.cell? ⟨w.heap.size, 3, none⟩ = some (.int .u8 0) := NF.out.cell rfl
    refine bodyPost_ret (v := .agg #[.int .i64 co, .int .u8 1, .int .i64 (i : Int), .int .u8 0]) (by simp [results, Try.results38, go_sem, z0, z1, z2, z3]) rfl ?_
    refine ⟨?_, ?_, ?_⟩
    ·rw [HEQ.out, HDR.out]
     show _ = Ending.returned (iS (if _ then _ else _ : FL × LS).1)
     rw [if_pos HCE.out, if_neg (by rw [HCO.out]; exact h2), HCO.out]
     rfl
    ·rw [HEQ.out, HDR.out]
     show ((if _ then _ else _ : FL × LS).1).code = 0 -> _
     rw [if_pos HCE.out, if_neg (by rw [HCO.out]; exact h2), HCO.out]
     exact fun e => absurd e h2
    exact (((((xX.of_below BA.out).trans' HC.out).trans' (xX.of_below B1.out)).trans C2.out fun k hk => (HFF.out k hk).imp id (fun q => by omega)).trans C3.out fun k hk => (HFF.out k hk).imp id (fun q => by omega)).trans (UF.out.chg (F := fun k => k = w.heap.size) rfl) fun k hk => .inr (by omega)
   have e2 : (ce != 0) = true := by simpa using h1
   have e2' : (ce == 0) = false := by simpa using h1
   have e3 : ¬ ce = 0 := h1
   go_wp2_with (first
    | (refine zQ _ rfl (.tmp 4) (.tmp 28) rfl rfl w.heap.size _ _ _ _ _ _ _ _ rfl rfl R2.out ?_; intro w9 hNF hUF; have NF := zZ hNF; have UF := zZ hUF; clear hNF hUF)
    | (refine tR _ rfl (.tmp 6) (.tmp 14) rfl rfl wr.heap.size _ _ _ _ _ _ _ _ rfl rfl (zU 61 wr #[.string ⟨#[]⟩, .int .u8 0, .slice none 0 0]) ?_; intro w1 hNA hUA; have X1 := zZ hNA; have b1 := ((Below.refl wr.heap.size wr).alloc (Nat.le_refl _) (.cells #[.string ⟨#[]⟩, .int .u8 0, .slice none 0 0] 61)).trans (hUA.below (Nat.le_refl _) (by simp)); have B1 := zZ b1; have L1 := zZ (HLED.out.below b1); have R1 := zZ (NRW.out.below b1); have y0 : w1.cell? ⟨wr.heap.size, 0, none⟩ = some (.string (zW nm)) := hNA.cell rfl; clear hNA hUA b1 a0 a1 a3)
    | (go_at_call 63; (with_reducible refine (vN F' w1 b s' _ L1.out (by omega)).mono ?_); rintro e w2 ⟨rfl, hL2, hC2⟩; have L2 := zZ hL2; have C2 := zZ hC2; clear hL2 hC2; have X2 := zZ (X1.out.keep (C2.out.block _ X1.out.lt (fun e => by have := HLED.out.low _ e; omega))); have R2 := zZ (R1.out.keep (C2.out.block _ R1.out.lt (fun e => HNR.out e))); rw [HCE.out]; clear y0; have AT2 : Hid (At w2 x ps) := (have p1 := BW.out.trans (B1.out.mono BW.out.size); HAT.out.below (p1.trans (C2.out.below HF0.out p1.size))); have u0 : w2.cell? ⟨wr.heap.size, 0, none⟩ = some (.string (zW nm)) := X2.out.cell rfl; have u1 : w2.cell? ⟨wr.heap.size, 1, none⟩ = some (.int .u8 (tg : Int)) := X2.out.cell rfl; have u2 : w2.cell? ⟨wr.heap.size, 2, none⟩ = some (.slice x ps.length c) := X2.out.cell rfl))
   have z0 : w9.cell? ⟨w.heap.size, 0, none⟩ = some (.int .i64 ce) := NF.out.cell rfl
   have z1 : w9.cell? ⟨w.heap.size, 1, none⟩ = some (.int .u8 1) := NF.out.cell rfl
   have z2 : w9.cell? ⟨w.heap.size, 2, none⟩ = some (.int .i64 (i : Int)) := NF.out.cell rfl
   have z3 : w9.cell? ⟨w.heap.size, 3, none⟩ = some (.int .u8 0) := NF.out.cell rfl
   refine bodyPost_ret (v := .agg #[.int .i64 ce, .int .u8 1, .int .i64 (i : Int), .int .u8 0]) (by simp [results, Try.results38, go_sem, z0, z1, z2, z3]) rfl ?_
   refine ⟨?_, ?_, ?_⟩
   ·rw [HEQ.out, HDR.out]
    show _ = Ending.returned (iS (if _ then _ else _ : FL × LS).1)
    rw [if_neg (by rw [HCE.out]; exact h1), HCE.out]
    rfl
   ·rw [HEQ.out, HDR.out]
    show ((if _ then _ else _ : FL × LS).1).code = 0 -> _
    rw [if_neg (by rw [HCE.out]; exact h1), HCE.out]
    exact fun e => absurd e h1
   exact ((((xX.of_below BA.out).trans' HC.out).trans' (xX.of_below B1.out)).trans C2.out fun k hk => (HFF.out k hk).imp id (fun q => by omega)).trans (UF.out.chg (F := fun k => k = w.heap.size) rfl) fun k hk => .inr (by omega)
  have hii : ¬ (i : Int) < (As.length : Int) := by omega
  have ei : i = As.length := by omega
  go_wp2_with (refine zQ _ rfl (.tmp 4) (.tmp 30) rfl rfl w.heap.size _ _ _ _ _ _ _ _ rfl rfl NRW.out ?_; intro w9 hNF hUF; have NF := zZ hNF; have UF := zZ hUF; clear hNF hUF)
  have z0 : w9.cell? ⟨w.heap.size, 0, none⟩ = some (.int .i64 0) := NF.out.cell rfl
  have z1 : w9.cell? ⟨w.heap.size, 1, none⟩ = some (.int .u8 0) := NF.out.cell rfl
  have z2 : w9.cell? ⟨w.heap.size, 2, none⟩ = some (.int .i64 0) := NF.out.cell rfl
  have z3 : w9.cell? ⟨w.heap.size, 3, none⟩ = some (.int .u8 0) := NF.out.cell rfl
  refine bodyPost_ret (v := .agg #[.int .i64 0, .int .u8 0, .int .i64 0, .int .u8 0]) (by simp [results, Try.results38, go_sem, z0, z1, z2, z3]) rfl ?_
  refine ⟨?_, ?_, ?_⟩
  ·rw [HEQ.out, ei, List.drop_length]
   rfl
  ·rw [HEQ.out, ei, List.drop_length]
   exact fun _ => ⟨F', HLED.out.keep (fun k hk => UF.out.block k (HLED.out.low k hk) (fun e => HNR.out (e ▸ hk))) UF.out.size, fun k hk => (HFF.out k hk).imp id (fun q => by omega)⟩
  exact ((xX.of_below BA.out).trans' HC.out).trans (UF.out.chg (F := fun k => k = w.heap.size) rfl) fun k hk => .inr (by omega)
def yQ (R : List (List Bool)) : Prop := R.length <= 200 /\ ∀ j, (xV R j).length <= 1024
theorem wU {R : List (List Bool)} (h : yQ R) (a p : Int) : yQ (yK R a p) := by
 unfold yK
 by_cases h0 : zE R a p = 0
 ·rw [if_pos h0]
  refine ⟨by rw [vE]; exact h.1, fun j => ?_⟩
  by_cases ha : a.toNat < R.length
  ·rw [sB j ha]
   split
   ·rw [List.length_set]; exact h.2 _
   exact h.2 j
  have e : mL R a.toNat p.toNat = R := by
   unfold mL
   exact List.set_eq_of_length_le (by omega)
  rw [e]
  exact h.2 j
 rw [if_neg h0]; exact h
def VF (F : Nat -> Prop) (w : World) (b : Nat) (cd : Int) (s : LS) (e : Ending) (w' : World) : Prop := e = .returned (.int .i64 cd) /\ rB F w' b s /\ xX F w w'
theorem kL {F F1 F2 : Nat -> Prop} {w : World} {b m : Nat} {v1 v2 : Value} {s : LS} (h : lC F w b m v1 v2 F1 F2 s) (hs : yQ s.I) (a p : Int) : Calls Try.prog 65 #[v1, .int .i64 a, .int .i64 p] w (VF F w b (zE s.I a p) ⟨s.ns, yK s.I a p, s.O⟩) := by
 refine (pK F1 w v1 s.I a p h.ins (by have := hs.1; omega) (fun j => by have := hs.2 j; omega)).mono ?_
 rintro e w' ⟨rfl, h1, h2⟩
 have hsz := h2.size
 exact ⟨rfl, ⟨m, v1, v2, F1, F2, h.blk.keep (h2.block b (h.low b h.fb) (fun e => (h.d1 b e).1 rfl)), h.names.keep (h2.block m (h.low m h.fm) (fun e => (h.d1 m e).2.1 rfl)), h1, h.outs.keep (fun k hk => h2.block k (h.outs.low k hk).2 (fun e => (h.d1 k e).2.2 hk)) hsz, h.bm, h.d1, h.d2, h.fb, h.fm, h.f1, h.f2, fun k hk => Nat.lt_of_lt_of_le (h.low k hk) hsz⟩, h2.wider h.f1⟩
theorem kK {F F1 F2 : Nat -> Prop} {w : World} {b m : Nat} {v1 v2 : Value} {s : LS} (h : lC F w b m v1 v2 F1 F2 s) (hs : yQ s.O) (a p : Int) : Calls Try.prog 65 #[v2, .int .i64 a, .int .i64 p] w (VF F w b (zE s.O a p) ⟨s.ns, s.I, yK s.O a p⟩) := by
 refine (pK F2 w v2 s.O a p h.outs (by have := hs.1; omega) (fun j => by have := hs.2 j; omega)).mono ?_
 rintro e w' ⟨rfl, h1, h2⟩
 have hsz := h2.size
 exact ⟨rfl, ⟨m, v1, v2, F1, F2, h.blk.keep (h2.block b (h.low b h.fb) (fun e => (h.d2 b e).1 rfl)), h.names.keep (h2.block m (h.low m h.fm) (fun e => (h.d2 m e).2 rfl)), h.ins.keep (fun k hk => h2.block k (h.ins.low k hk).2 (h.d1 k hk).2.2) hsz, h1, h.bm, h.d1, h.d2, h.fb, h.fm, h.f1, h.f2, fun k hk => Nat.lt_of_lt_of_le (h.low k hk) hsz⟩, h2.wider h.f2⟩
theorem lC.below {F F1 F2 : Nat -> Prop} {w w' : World} {b m : Nat} {v1 v2 : Value} {s : LS} (h : lC F w b m v1 v2 F1 F2 s) (hb : Below w.heap.size w w') : lC F w' b m v1 v2 F1 F2 s :=
 ⟨h.blk.below hb, h.names.keep (hb.block m (h.low m h.fm)), h.ins.keep (fun k hk => hb.block k (h.ins.low k hk).2) hb.size, h.outs.keep (fun k hk => hb.block k (h.outs.low k hk).2) hb.size, h.bm, h.d1, h.d2, h.fb, h.fm, h.f1, h.f2, fun k hk => Nat.lt_of_lt_of_le (h.low k hk) hb.size⟩
def mJ (F : Nat -> Prop) (V : World) (b : Nat) (s : LS) (u : World) : Prop := rB F u b s /\ xX F V u
theorem mJ.later {F : Nat -> Prop} {V u u' : World} {b : Nat} {s : LS} (h : mJ F V b s u) (hb : Below u.heap.size u u') : mJ F V b s u' := ⟨h.1.below hb, h.2.trans' (xX.of_below hb)⟩
theorem jM (F : Nat -> Prop) (w0 w : World) (b : Nat) (s : LS) (a : Option Addr) (Es : List GE) (cap : Nat) (h : rB F w b s) (hA : VG w0 a Es) (hw : Below w0.heap.size w0 w) (hF : ∀ k, F k -> w0.heap.size <= k) (hn : Es.length <= 96) (hI : yQ s.I) (hO : yQ s.O) :
 Calls Try.prog 39 #[.pointer (some ⟨b, 0, none⟩), .slice a Es.length cap] w (iC F w b (wY Es 0 s)) := by
 have HA := zZ hA
 have HW := zZ hw
 have HF := zZ hF
 have sw := hw.size
 have ba := (Below.refl w.heap.size w).alloc (Nat.le_refl _) (.cells #[.int .i64 0, .int .u8 0, .int .i64 0, .int .u8 0] 52)
 have BA := zZ ba
 have HL := zZ (h.below ba)
 have HLO := zZ h.low
 have HI0 := zZ hI
 have HO0 := zZ hO
 have NR := zZ (zU 52 w #[.int .i64 0, .int .u8 0, .int .i64 0, .int .u8 0])
 have hsz : (w.alloc (.cells #[.int .i64 0, .int .u8 0, .int .i64 0, .int .u8 0] 52)).heap.size = w.heap.size + 1 := by simp
 have hnI : (Es.length : Int) <= 96 := by omega
 clear h hA hw hF ba hI hO
 go_enter Try.func39, Try.ntmps39
 go_upto_region 1 with fail
 generalize w.alloc (.cells #[.int .i64 0, .int .u8 0, .int .i64 0, .int .u8 0] 52) = W0 at *
 go_wp2
 go_loopg [11] Es.length (fun gk v wr => ∃ (i : Nat) (s' : LS), i <= Es.length /\ gk = Es.length - i /\ v = .int .i64 (i : Int) /\ wY Es 0 s = wY (Es.drop i) i s' /\ rB F wr b s' /\ xX F W0 wr /\ s'.ns.length <= s.ns.length + i /\ yQ s'.I /\ yQ s'.O)
 case atStart => exact ⟨0, s, Nat.zero_le _, rfl, rfl, rfl, HL.out, xX.of_below (Below.refl _ _), Nat.le_refl _, HI0.out, HO0.out⟩
 case round =>
  obtain ⟨i, s', hi, rfl, rfl, hEq, hLed, hChg, q1, hI', hO'⟩ := hrel
  have HEQ := zZ hEq
  have HLED := zZ hLed
  have HC := zZ hChg
  have HI' := zZ hI'
  have HO' := zZ hO'
  have swr := hChg.size
  have HNR : Hid (¬ F w.heap.size) := fun e => by have := HLO.out _ e; omega
  have NRW := zZ (NR.out.keep (hChg.block _ (by omega) HNR.out))
  have BW : Hid (Below w0.heap.size w0 wr) := by
   have p1 := HW.out.trans (BA.out.mono sw)
   exact p1.trans (hChg.below HF.out p1.size)
  clear hEq hLed hChg hI' hO'
  by_cases hlt : i < Es.length
  ·have hii : (i : Int) < (Es.length : Int) := by omega
   rcases HA.out with h0 | ⟨ab, ao, rfl, hc⟩
   ·rw [h0] at hlt; simp at hlt
   obtain ⟨a0', a1', a2', a3', x, c, a4', -⟩ := hc i hlt
   have a0 := yF BW.out a0'
   have a1 := yF BW.out a1'
   have a2 := yF BW.out a2'
   have a3 := yF BW.out a3'
   have a4 := yF BW.out a4'
   have HDR := zZ (ZW hlt)
   generalize yU Es i = E at *
   obtain ⟨ef, efp, et, etp, st⟩ := E
   clear hc a0' a1' a2' a3' a4'
   obtain ⟨ce, hce⟩ : ∃ q, zE s'.O ef efp = q := ⟨_, rfl⟩
   have HCE := zZ hce
   obtain ⟨m, v1, v2, F1, F2, hP0⟩ := id HLED.out
   obtain ⟨vx, vc, hv2⟩ := hP0.outs.slice
   subst hv2
   have HP0 := zZ hP0
   obtain ⟨ls, hls⟩ : ∃ q, st.length = q := ⟨_, rfl⟩
   have HLS := zZ hls
   rw [show (GE.mk ef efp et etp st).start.length = ls from hls] at a4
   clear hP0 hce hls
   go_upto_region 4 with (refine lA _ rfl (.tmp 6) (.tmp 15) rfl rfl wr.heap.size _ _ _ _ _ _ _ _ _ _ _ _ rfl rfl (zU 64 wr #[.int .i64 0, .int .i64 0, .int .i64 0, .int .i64 0, .slice none 0 0]) ?_; intro w1 hNA hUA; have X1 := zZ hNA; have b1 := ((Below.refl wr.heap.size wr).alloc (Nat.le_refl _) (.cells #[.int .i64 0, .int .i64 0, .int .i64 0, .int .i64 0, .slice none 0 0] 64)).trans (hUA.below (Nat.le_refl _) (by simp)); have B1 := zZ b1; have L1 := zZ (HLED.out.below b1); have R1 := zZ (NRW.out.below b1); clear hNA hUA b1)
   have LP1 := zZ (HP0.out.below B1.out)
   refine zB [8] (fun d i u z => match i with
    | 0 => z = .pointer (some ⟨b, 0, none⟩)
    | 1 => z = .pointer (some ⟨b, 0, none⟩)
    | 2 => z = .pointer (some ⟨b, 2, none⟩)
    | 3 => z = .slice vx s'.O.length vc
    | 4 => z = .pointer (some ⟨wr.heap.size, 0, none⟩)
    | 5 => z = .int .i64 ef
    | 6 => z = .pointer (some ⟨wr.heap.size, 1, none⟩)
    | 7 => z = .int .i64 efp
    | 8 => z = .int .i64 (zE s'.O ef efp)
    | 9 => z = .int .i64 (zE s'.O ef efp)
    | _ => True) (fun d u => (d 8 = false -> Below w1.heap.size w1 u) /\ (d 8 = true -> mJ F w1 b ⟨s'.ns, s'.I, yK s'.O ef efp⟩ u)) (by kernel_rfl) (by kernel_rfl) (by kernel_rfl) ?_ ?_ ?_ ?_ ?_ ?_ (by kernel_rfl)
   ·intro d i w v w' h hb
    match i, h with
    | 0, h => exact h
    | 1, h => exact h
    | 2, h => exact h
    | 3, h => exact h
    | 4, h => exact h
    | 5, h => exact h
    | 6, h => exact h
    | 7, h => exact h
    | 8, h => exact h
    | 9, h => exact h
    | _ + 10, _ => trivial
   ·intro d u u' h hb
    exact ⟨fun e => (h.1 e).trans (hb.mono (h.1 e).size), fun e => (h.2 e).later hb⟩
   ·exact ⟨fun _ => Below.refl _ _, fun e => absurd e (by decide)⟩
   ·intro d i o ρ w' hm ho hf hg hC hcs hfs hfr zY
    match i, hm, ho, hf, hg, hfr, zY with
    | 0, _, ho, hf, hg, hfr, zY =>
     simp only [qS] at ho
     subst ho
     refine ⟨fun _ => ?_, qF⟩
     have ts : ρ (.tmp 0) = .pointer (some ⟨b, 0, none⟩) := hfr 0 (by kernel_rfl)
     simp [go_sem, ts]
     exact qB
    | 1, _, ho, hf, hg, hfr, zY =>
     simp only [qS] at ho
     subst ho
     refine ⟨fun _ => ?_, qF⟩
     have d0 : ρ (.tmp 16) = .pointer (some ⟨b, 0, none⟩) := zY 0 16 (by kernel_rfl) (by kernel_rfl)
     simp [go_sem, d0]
     exact qB
    | 2, _, ho, hf, hg, hfr, zY =>
     simp only [qS] at ho
     subst ho
     refine ⟨fun _ => ?_, qF⟩
     have d0 : ρ (.tmp 17) = .pointer (some ⟨b, 0, none⟩) := zY 1 17 (by kernel_rfl) (by kernel_rfl)
     simp [go_sem, d0]
     exact qB
    | 3, _, ho, hf, hg, hfr, zY =>
     simp only [qS] at ho
     subst ho
     refine ⟨fun _ => ?_, qF⟩
     have cc : w'.cell? ⟨b, 2, none⟩ = some (.slice vx s'.O.length vc) := (LP1.out.blk.below (hC.1 (hf 8 (by decide) (by kernel_rfl)))).cell rfl
     have d0 : ρ (.tmp 18) = .pointer (some ⟨b, 2, none⟩) := zY 2 18 (by kernel_rfl) (by kernel_rfl)
     simp [go_sem, d0, cc]
     exact qB
    | 4, _, ho, hf, hg, hfr, zY =>
     simp only [qS] at ho
     subst ho
     refine ⟨fun _ => ?_, qF⟩
     have tq : ρ (.tmp 6) = .pointer (some ⟨wr.heap.size, 0, none⟩) := hfr 6 (by kernel_rfl)
     simp [go_sem, tq]
     exact qB
    | 5, _, ho, hf, hg, hfr, zY =>
     simp only [qS] at ho
     subst ho
     refine ⟨fun _ => ?_, qF⟩
     have cc : w'.cell? ⟨wr.heap.size, 0, none⟩ = some (.int .i64 ef) := (X1.out.below (hC.1 (hf 8 (by decide) (by kernel_rfl)))).cell rfl
     have d0 : ρ (.tmp 20) = .pointer (some ⟨wr.heap.size, 0, none⟩) := zY 4 20 (by kernel_rfl) (by kernel_rfl)
     simp [go_sem, d0, cc]
     exact qB
    | 6, _, ho, hf, hg, hfr, zY =>
     simp only [qS] at ho
     subst ho
     refine ⟨fun _ => ?_, qF⟩
     have tq : ρ (.tmp 6) = .pointer (some ⟨wr.heap.size, 0, none⟩) := hfr 6 (by kernel_rfl)
     simp [go_sem, tq]
     exact qB
    | 7, _, ho, hf, hg, hfr, zY =>
     simp only [qS] at ho
     subst ho
     refine ⟨fun _ => ?_, qF⟩
     have cc : w'.cell? ⟨wr.heap.size, 1, none⟩ = some (.int .i64 efp) := (X1.out.below (hC.1 (hf 8 (by decide) (by kernel_rfl)))).cell rfl
     have d0 : ρ (.tmp 22) = .pointer (some ⟨wr.heap.size, 1, none⟩) := zY 6 22 (by kernel_rfl) (by kernel_rfl)
     simp [go_sem, d0, cc]
     exact qB
    | 8, hm, _, _, _, _, _ => exact qD hm
    | 9, _, ho, hf, hg, hfr, zY =>
     simp only [qS] at ho
     subst ho
     refine ⟨fun _ => ?_, qF⟩
     have d0 : ρ (.tmp 24) = .int .i64 (zE s'.O ef efp) := zY 8 24 (by kernel_rfl) (by kernel_rfl)
     simp [go_sem, d0]
     exact qB
    | n + 10, _, ho, _, _, _, _ => simp at ho
   ·intro d i o ρ w' hm ho h0 hf hg hC hcs hfs hfr zY
    match i, hm, ho, h0, hf, hg, hfr, zY with
    | 0, hm, _, _, _, _, _, _ => exact qD hm
    | 1, hm, _, _, _, _, _, _ => exact qD hm
    | 2, hm, _, _, _, _, _, _ => exact qD hm
    | 3, hm, _, _, _, _, _, _ => exact qD hm
    | 4, hm, _, _, _, _, _, _ => exact qD hm
    | 5, hm, _, _, _, _, _, _ => exact qD hm
    | 6, hm, _, _, _, _, _, _ => exact qD hm
    | 7, hm, _, _, _, _, _, _ => exact qD hm
    | 8, _, ho, h0, hf, hg, hfr, zY =>
     simp only [qS] at ho
     subst ho
     have t3 : ρ (.tmp 19) = .slice vx s'.O.length vc := zY 3 19 (by kernel_rfl) (by kernel_rfl)
     have t5 : ρ (.tmp 21) = .int .i64 ef := zY 5 21 (by kernel_rfl) (by kernel_rfl)
     have t7 : ρ (.tmp 23) = .int .i64 efp := zY 7 23 (by kernel_rfl) (by kernel_rfl)
     refine ⟨rfl, ?_⟩
     simp [go_sem, t3, t5, t7, hfs, xJ]
     refine (kK (LP1.out.below (hC.1 h0)) HO'.out _ _).mono ?_
     rintro e u9 ⟨rfl, hL9, hC9'⟩
     exact ⟨rfl, fun e => absurd e (by simp [yN]), fun _ => ⟨hL9, (xX.of_below (hC.1 h0)).trans' hC9'⟩⟩
    | 9, hm, _, _, _, _, _, _ => exact qD hm
    | n + 10, _, ho, _, _, _, _, _ => simp at ho
   intro V w2 hC2 hS
   have e9 : V 9 = .int .i64 (zE s'.O ef efp) := hS 9 (by decide) (by intro h; cases h)
   simp only [yL, e9]
   simp only [Act.put, qU]
   clear hS e9
   obtain ⟨hL2, hG2⟩ := hC2.2 rfl
   have L2 := zZ hL2
   have G2 := zZ hG2
   have X2 := zZ (X1.out.keep (G2.out.block _ X1.out.lt (fun e => by have := HLED.out.low _ e; omega)))
   have R2 := zZ (R1.out.keep (G2.out.block _ R1.out.lt HNR.out))
   clear hC2 hL2 hG2 LP1 HP0
   rw [HCE.out]
   by_cases h1 : ce = 0
   ·subst h1
    obtain ⟨co, hco⟩ : ∃ q, zE s'.I et etp = q := ⟨_, rfl⟩
    have HCO := zZ hco
    obtain ⟨m', u1, u2, E1, E2, hQ0⟩ := id L2.out
    obtain ⟨wx, wc, hw1⟩ := hQ0.ins.slice
    subst hw1
    have LQ := zZ hQ0
    clear hQ0 hco
    go_upto_region 7 with fail
    refine zB [8] (fun d i u z => match i with
     | 0 => z = .pointer (some ⟨b, 0, none⟩)
     | 1 => z = .pointer (some ⟨b, 0, none⟩)
     | 2 => z = .pointer (some ⟨b, 1, none⟩)
     | 3 => z = .slice wx s'.I.length wc
     | 4 => z = .pointer (some ⟨wr.heap.size, 2, none⟩)
     | 5 => z = .int .i64 et
     | 6 => z = .pointer (some ⟨wr.heap.size, 3, none⟩)
     | 7 => z = .int .i64 etp
     | 8 => z = .int .i64 (zE s'.I et etp)
     | 9 => z = .int .i64 (zE s'.I et etp)
     | _ => True) (fun d u => (d 8 = false -> Below w2.heap.size w2 u) /\ (d 8 = true -> mJ F w2 b ⟨s'.ns, yK s'.I et etp, yK s'.O ef efp⟩ u)) (by kernel_rfl) (by kernel_rfl) (by kernel_rfl) ?_ ?_ ?_ ?_ ?_ ?_ (by kernel_rfl)
    ·intro d i w v w' h hb
     match i, h with
     | 0, h => exact h
     | 1, h => exact h
     | 2, h => exact h
     | 3, h => exact h
     | 4, h => exact h
     | 5, h => exact h
     | 6, h => exact h
     | 7, h => exact h
     | 8, h => exact h
     | 9, h => exact h
     | _ + 10, _ => trivial
    ·intro d u u' h hb
     exact ⟨fun e => (h.1 e).trans (hb.mono (h.1 e).size), fun e => (h.2 e).later hb⟩
    ·exact ⟨fun _ => Below.refl _ _, fun e => absurd e (by decide)⟩
    ·intro d i o ρ w' hm ho hf hg hC hcs hfs hfr zY
     match i, hm, ho, hf, hg, hfr, zY with
     | 0, _, ho, hf, hg, hfr, zY =>
      simp only [qS] at ho
      subst ho
      refine ⟨fun _ => ?_, qF⟩
      have ts : ρ (.tmp 0) = .pointer (some ⟨b, 0, none⟩) := hfr 0 (by kernel_rfl)
      simp [go_sem, ts]
      exact qB
     | 1, _, ho, hf, hg, hfr, zY =>
      simp only [qS] at ho
      subst ho
      refine ⟨fun _ => ?_, qF⟩
      have d0 : ρ (.tmp 30) = .pointer (some ⟨b, 0, none⟩) := zY 0 30 (by kernel_rfl) (by kernel_rfl)
      simp [go_sem, d0]
      exact qB
     | 2, _, ho, hf, hg, hfr, zY =>
      simp only [qS] at ho
      subst ho
      refine ⟨fun _ => ?_, qF⟩
      have d0 : ρ (.tmp 31) = .pointer (some ⟨b, 0, none⟩) := zY 1 31 (by kernel_rfl) (by kernel_rfl)
      simp [go_sem, d0]
      exact qB
     | 3, _, ho, hf, hg, hfr, zY =>
      simp only [qS] at ho
      subst ho
      refine ⟨fun _ => ?_, qF⟩
      have cc : w'.cell? ⟨b, 1, none⟩ = some (.slice wx s'.I.length wc) := (LQ.out.blk.below (hC.1 (hf 8 (by decide) (by kernel_rfl)))).cell rfl
      have d0 : ρ (.tmp 32) = .pointer (some ⟨b, 1, none⟩) := zY 2 32 (by kernel_rfl) (by kernel_rfl)
      simp [go_sem, d0, cc]
      exact qB
     | 4, _, ho, hf, hg, hfr, zY =>
      simp only [qS] at ho
      subst ho
      refine ⟨fun _ => ?_, qF⟩
      have tq : ρ (.tmp 6) = .pointer (some ⟨wr.heap.size, 0, none⟩) := hfr 6 (by kernel_rfl)
      simp [go_sem, tq]
      exact qB
     | 5, _, ho, hf, hg, hfr, zY =>
      simp only [qS] at ho
      subst ho
      refine ⟨fun _ => ?_, qF⟩
      have cc : w'.cell? ⟨wr.heap.size, 2, none⟩ = some (.int .i64 et) := (X2.out.below (hC.1 (hf 8 (by decide) (by kernel_rfl)))).cell rfl
      have d0 : ρ (.tmp 34) = .pointer (some ⟨wr.heap.size, 2, none⟩) := zY 4 34 (by kernel_rfl) (by kernel_rfl)
      simp [go_sem, d0, cc]
      exact qB
     | 6, _, ho, hf, hg, hfr, zY =>
      simp only [qS] at ho
      subst ho
      refine ⟨fun _ => ?_, qF⟩
      have tq : ρ (.tmp 6) = .pointer (some ⟨wr.heap.size, 0, none⟩) := hfr 6 (by kernel_rfl)
      simp [go_sem, tq]
      exact qB
     | 7, _, ho, hf, hg, hfr, zY =>
      simp only [qS] at ho
      subst ho
      refine ⟨fun _ => ?_, qF⟩
      have cc : w'.cell? ⟨wr.heap.size, 3, none⟩ = some (.int .i64 etp) := (X2.out.below (hC.1 (hf 8 (by decide) (by kernel_rfl)))).cell rfl
      have d0 : ρ (.tmp 36) = .pointer (some ⟨wr.heap.size, 3, none⟩) := zY 6 36 (by kernel_rfl) (by kernel_rfl)
      simp [go_sem, d0, cc]
      exact qB
     | 8, hm, _, _, _, _, _ => exact qD hm
     | 9, _, ho, hf, hg, hfr, zY =>
      simp only [qS] at ho
      subst ho
      refine ⟨fun _ => ?_, qF⟩
      have d0 : ρ (.tmp 38) = .int .i64 (zE s'.I et etp) := zY 8 38 (by kernel_rfl) (by kernel_rfl)
      simp [go_sem, d0]
      exact qB
     | n + 10, _, ho, _, _, _, _ => simp at ho
    ·intro d i o ρ w' hm ho h0 hf hg hC hcs hfs hfr zY
     match i, hm, ho, h0, hf, hg, hfr, zY with
     | 0, hm, _, _, _, _, _, _ => exact qD hm
     | 1, hm, _, _, _, _, _, _ => exact qD hm
     | 2, hm, _, _, _, _, _, _ => exact qD hm
     | 3, hm, _, _, _, _, _, _ => exact qD hm
     | 4, hm, _, _, _, _, _, _ => exact qD hm
     | 5, hm, _, _, _, _, _, _ => exact qD hm
     | 6, hm, _, _, _, _, _, _ => exact qD hm
     | 7, hm, _, _, _, _, _, _ => exact qD hm
     | 8, _, ho, h0, hf, hg, hfr, zY =>
      simp only [qS] at ho
      subst ho
      have t3 : ρ (.tmp 33) = .slice wx s'.I.length wc := zY 3 33 (by kernel_rfl) (by kernel_rfl)
      have t5 : ρ (.tmp 35) = .int .i64 et := zY 5 35 (by kernel_rfl) (by kernel_rfl)
      have t7 : ρ (.tmp 37) = .int .i64 etp := zY 7 37 (by kernel_rfl) (by kernel_rfl)
      refine ⟨rfl, ?_⟩
      simp [go_sem, t3, t5, t7, hfs, xJ]
      refine (kL (LQ.out.below (hC.1 h0)) HI'.out _ _).mono ?_
      rintro e u9 ⟨rfl, hL9, hC9'⟩
      exact ⟨rfl, fun e => absurd e (by simp [yN]), fun _ => ⟨hL9, (xX.of_below (hC.1 h0)).trans' hC9'⟩⟩
     | 9, hm, _, _, _, _, _, _ => exact qD hm
     | n + 10, _, ho, _, _, _, _, _ => simp at ho
    intro V w3 hC3 hS
    have e9 : V 9 = .int .i64 (zE s'.I et etp) := hS 9 (by decide) (by intro h; cases h)
    simp only [yL, e9]
    simp only [Act.put, qU]
    clear hS e9
    obtain ⟨hL3, hG3⟩ := hC3.2 rfl
    have L3 := zZ hL3
    have G3 := zZ hG3
    have X3 := X2.out.keep (G3.out.block _ X2.out.lt (fun e => by have := HLED.out.low _ e; omega))
    have R3 := zZ (R2.out.keep (G3.out.block _ R2.out.lt HNR.out))
    have y4 : w3.cell? ⟨wr.heap.size, 4, none⟩ = some (.slice x ls c) := X3.cell rfl
    clear hC3 hL3 hG3 LQ X3
    rw [HCO.out]
    by_cases h2 : co = 0
    ·subst h2
     by_cases h3 : 256 < ls
     ·have h3i : (256 : Int) < (ls : Int) := by omega
      go_wp2_with (refine zQ _ rfl (.tmp 4) (.tmp 49) rfl rfl w.heap.size _ _ _ _ _ _ _ _ rfl rfl R3.out ?_; intro w9 hNF hUF; have NF := zZ hNF; have UF := zZ hUF; clear hNF hUF)
      have z0 : w9.cell? ⟨w.heap.size, 0, none⟩ = some (.int .i64 88) := NF.out.cell rfl
      have z1 : w9.cell? ⟨w.heap.size, 1, none⟩ = some (.int .u8 2) := NF.out.cell rfl
      have z2 : w9.cell? ⟨w.heap.size, 2, none⟩ = some (.int .i64 (i : Int)) := NF.out.cell rfl
      have z3 : w9.cell? ⟨w.heap.size, 3, none⟩ = some (.int .u8 0) := NF.out.cell rfl
      refine bodyPost_ret (v := .agg #[.int .i64 88, .int .u8 2, .int .i64 (i : Int), .int .u8 0]) (by simp [results, Try.results39, go_sem, z0, z1, z2, z3]) rfl ?_
      refine ⟨?_, ?_, ?_⟩
      ·rw [HEQ.out, HDR.out]
       show _ = Ending.returned (iS (if _ then _ else _ : FL × LS).1)
       rw [if_pos HCE.out, if_pos HCO.out, if_pos (by rw [HLS.out]; exact h3)]
       rfl
      ·rw [HEQ.out, HDR.out]
       show ((if _ then _ else _ : FL × LS).1).code = 0 -> _
       rw [if_pos HCE.out, if_pos HCO.out, if_pos (by rw [HLS.out]; exact h3)]
       exact fun e => absurd e (by show ¬ (88 : Int) = 0; decide)
      exact (((((xX.of_below BA.out).trans' HC.out).trans' (xX.of_below B1.out)).trans' G2.out).trans' G3.out).trans (UF.out.chg (F := fun k => k = w.heap.size) rfl) fun k hk => .inr (by omega)
     have h3i : ¬ (256 : Int) < (ls : Int) := by omega
     go_wp2
     go_roundg (Es.length - (i + 1))
     case measure => omega
     case rel =>
      refine ⟨i + 1, _, by omega, rfl, by go_num, ?_, L3.out, ((HC.out.trans' (xX.of_below B1.out)).trans' G2.out).trans' G3.out, by show s'.ns.length <= _; omega, wU HI'.out _ _, wU HO'.out _ _⟩
      rw [HEQ.out, HDR.out]
      show (if _ then _ else _) = _
      rw [if_pos HCE.out, if_pos HCO.out, if_neg (by rw [HLS.out]; exact h3)]
    have e2 : (co != 0) = true := by simpa using h2
    go_wp2_with (refine zQ _ rfl (.tmp 4) (.tmp 43) rfl rfl w.heap.size _ _ _ _ _ _ _ _ rfl rfl R3.out ?_; intro w9 hNF hUF; have NF := zZ hNF; have UF := zZ hUF; clear hNF hUF)
    have z0 : w9.cell? ⟨w.heap.size, 0, none⟩ = some (.int .i64 co) := NF.out.cell rfl
    have z1 : w9.cell? ⟨w.heap.size, 1, none⟩ = some (.int .u8 2) := NF.out.cell rfl
    have z2 : w9.cell? ⟨w.heap.size, 2, none⟩ = some (.int .i64 (i : Int)) := NF.out.cell rfl
    have z3 : w9.cell? ⟨w.heap.size, 3, none⟩ = some (.int .u8 2) := NF.out.cell rfl
    refine bodyPost_ret (v := .agg #[.int .i64 co, .int .u8 2, .int .i64 (i : Int), .int .u8 2]) (by simp [results, Try.results39, go_sem, z0, z1, z2, z3]) rfl ?_
    refine ⟨?_, ?_, ?_⟩
    ·rw [HEQ.out, HDR.out]
     show _ = Ending.returned (iS (if _ then _ else _ : FL × LS).1)
     rw [if_pos HCE.out, if_neg (by rw [HCO.out]; exact h2), HCO.out]
     rfl
    ·rw [HEQ.out, HDR.out]
     show ((if _ then _ else _ : FL × LS).1).code = 0 -> _
     rw [if_pos HCE.out, if_neg (by rw [HCO.out]; exact h2), HCO.out]
     exact fun e => absurd e h2
    exact (((((xX.of_below BA.out).trans' HC.out).trans' (xX.of_below B1.out)).trans' G2.out).trans' G3.out).trans (UF.out.chg (F := fun k => k = w.heap.size) rfl) fun k hk => .inr (by omega)
   have e2 : (ce != 0) = true := by simpa using h1
   go_wp2_with (refine zQ _ rfl (.tmp 4) (.tmp 29) rfl rfl w.heap.size _ _ _ _ _ _ _ _ rfl rfl R2.out ?_; intro w9 hNF hUF; have NF := zZ hNF; have UF := zZ hUF; clear hNF hUF)
   have z0 : w9.cell? ⟨w.heap.size, 0, none⟩ = some (.int .i64 ce) := NF.out.cell rfl
   have z1 : w9.cell? ⟨w.heap.size, 1, none⟩ = some (.int .u8 2) := NF.out.cell rfl
   have z2 : w9.cell? ⟨w.heap.size, 2, none⟩ = some (.int .i64 (i : Int)) := NF.out.cell rfl
   have z3 : w9.cell? ⟨w.heap.size, 3, none⟩ = some (.int .u8 1) := NF.out.cell rfl
   refine bodyPost_ret (v := .agg #[.int .i64 ce, .int .u8 2, .int .i64 (i : Int), .int .u8 1]) (by simp [results, Try.results39, go_sem, z0, z1, z2, z3]) rfl ?_
   refine ⟨?_, ?_, ?_⟩
   ·rw [HEQ.out, HDR.out]
    show _ = Ending.returned (iS (if _ then _ else _ : FL × LS).1)
    rw [if_neg (by rw [HCE.out]; exact h1), HCE.out]
    rfl
   ·rw [HEQ.out, HDR.out]
    show ((if _ then _ else _ : FL × LS).1).code = 0 -> _
    rw [if_neg (by rw [HCE.out]; exact h1), HCE.out]
    exact fun e => absurd e h1
   exact ((((xX.of_below BA.out).trans' HC.out).trans' (xX.of_below B1.out)).trans' G2.out).trans (UF.out.chg (F := fun k => k = w.heap.size) rfl) fun k hk => .inr (by omega)
  have hii : ¬ (i : Int) < (Es.length : Int) := by omega
  have ei : i = Es.length := by omega
  go_wp2_with (refine zQ _ rfl (.tmp 4) (.tmp 51) rfl rfl w.heap.size _ _ _ _ _ _ _ _ rfl rfl NRW.out ?_; intro w9 hNF hUF; have NF := zZ hNF; have UF := zZ hUF; clear hNF hUF)
  have z0 : w9.cell? ⟨w.heap.size, 0, none⟩ = some (.int .i64 0) := NF.out.cell rfl
  have z1 : w9.cell? ⟨w.heap.size, 1, none⟩ = some (.int .u8 0) := NF.out.cell rfl
  have z2 : w9.cell? ⟨w.heap.size, 2, none⟩ = some (.int .i64 0) := NF.out.cell rfl
  have z3 : w9.cell? ⟨w.heap.size, 3, none⟩ = some (.int .u8 0) := NF.out.cell rfl
  refine bodyPost_ret (v := .agg #[.int .i64 0, .int .u8 0, .int .i64 0, .int .u8 0]) (by simp [results, Try.results39, go_sem, z0, z1, z2, z3]) rfl ?_
  refine ⟨?_, ?_, ?_⟩
  ·rw [HEQ.out, ei, List.drop_length]
   rfl
  ·rw [HEQ.out, ei, List.drop_length]
   exact fun _ => ⟨F, HLED.out.keep (fun k hk => UF.out.block k (HLED.out.low k hk) (fun e => HNR.out (e ▸ hk))) UF.out.size, fun k hk => .inl hk⟩
  exact ((xX.of_below BA.out).trans' HC.out).trans (UF.out.chg (F := fun k => k = w.heap.size) rfl) fun k hk => .inr (by omega)
theorem fE (F : Nat -> Prop) (w0 w : World) (b : Nat) (s : LS) (a : Option Addr) (Es : List GP) (cap : Nat) (h : rB F w b s) (hA : tO w0 a Es) (hw : Below w0.heap.size w0 w) (hF : ∀ k, F k -> w0.heap.size <= k) (hn : Es.length <= 16) (hns : s.ns.length <= 100) (hI : yQ s.I) (hO : yQ s.O) :
 Calls Try.prog 40 #[.pointer (some ⟨b, 0, none⟩), .slice a Es.length cap] w (iC F w b (sU Es 0 s)) := by
 have HA := zZ hA
 have HW := zZ hw
 have HF := zZ hF
 have sw := hw.size
 have ba := (Below.refl w.heap.size w).alloc (Nat.le_refl _) (.cells #[.int .i64 0, .int .u8 0, .int .i64 0, .int .u8 0] 52)
 have BA := zZ ba
 have HL := zZ (h.below ba)
 have HLO := zZ h.low
 have HI0 := zZ hI
 have HO0 := zZ hO
 have NR := zZ (zU 52 w #[.int .i64 0, .int .u8 0, .int .i64 0, .int .u8 0])
 have hsz : (w.alloc (.cells #[.int .i64 0, .int .u8 0, .int .i64 0, .int .u8 0] 52)).heap.size = w.heap.size + 1 := by simp
 have hnI : (Es.length : Int) <= 16 := by omega
 clear h hA hw hF ba hI hO
 go_enter Try.func40, Try.ntmps40
 go_upto_region 1 with fail
 generalize w.alloc (.cells #[.int .i64 0, .int .u8 0, .int .i64 0, .int .u8 0] 52) = W0 at *
 go_wp2
 go_loopg [11] Es.length (fun gk v wr => ∃ (i : Nat) (s' : LS), i <= Es.length /\ gk = Es.length - i /\ v = .int .i64 (i : Int) /\ sU Es 0 s = sU (Es.drop i) i s' /\ rB F wr b s' /\ xX F W0 wr /\ s'.ns.length <= s.ns.length + i /\ yQ s'.I /\ yQ s'.O)
 case atStart => exact ⟨0, s, Nat.zero_le _, rfl, rfl, rfl, HL.out, xX.of_below (Below.refl _ _), Nat.le_refl _, HI0.out, HO0.out⟩
 case round =>
  obtain ⟨i, s', hi, rfl, rfl, hEq, hLed, hChg, q1, hI', hO'⟩ := hrel
  have HEQ := zZ hEq
  have HLED := zZ hLed
  have HC := zZ hChg
  have HI' := zZ hI'
  have HO' := zZ hO'
  have swr := hChg.size
  have HNR : Hid (¬ F w.heap.size) := fun e => by have := HLO.out _ e; omega
  have NRW := zZ (NR.out.keep (hChg.block _ (by omega) HNR.out))
  have BW : Hid (Below w0.heap.size w0 wr) := by
   have p1 := HW.out.trans (BA.out.mono sw)
   exact p1.trans (hChg.below HF.out p1.size)
  clear hEq hLed hChg hI' hO'
  by_cases hlt : i < Es.length
  ·have hii : (i : Int) < (Es.length : Int) := by omega
   rcases HA.out with h0 | ⟨ab, ao, rfl, hc⟩
   ·rw [h0] at hlt; simp at hlt
   obtain ⟨a0', a1', a2'⟩ := hc i hlt
   have a0 := yF BW.out a0'
   have a1 := yF BW.out a1'
   have a2 := yF BW.out a2'
   have HDR := zZ (jN hlt)
   generalize zF Es i = E at *
   obtain ⟨nm, pa, pp⟩ := E
   clear hc a0' a1' a2'
   obtain ⟨ce, hce⟩ : ∃ q, (zL s'.ns nm).1 = q := ⟨_, rfl⟩
   have HCE := zZ hce
   have q4 := tN s'.ns nm
   clear hce
   by_cases h1 : ce = 0
   ·subst h1
    obtain ⟨co, hco⟩ : ∃ q, zE s'.I pa pp = q := ⟨_, rfl⟩
    have HCO := zZ hco
    clear hco
    go_upto_region 7 with (first
     | (refine vI _ rfl (.tmp 6) (.tmp 15) rfl rfl wr.heap.size _ _ _ _ _ _ rfl rfl (zU 83 wr #[.string ⟨#[]⟩, .int .i64 0, .int .i64 0]) ?_; intro w1 hNA hUA; have X1 := zZ hNA; have b1 := ((Below.refl wr.heap.size wr).alloc (Nat.le_refl _) (.cells #[.string ⟨#[]⟩, .int .i64 0, .int .i64 0] 83)).trans (hUA.below (Nat.le_refl _) (by simp)); have B1 := zZ b1; have L1 := zZ (HLED.out.below b1); have R1 := zZ (NRW.out.below b1); have y0 : w1.cell? ⟨wr.heap.size, 0, none⟩ = some (.string (zW nm)) := hNA.cell rfl; clear hNA hUA b1)
     | (go_at_call 63; (with_reducible refine (vN F w1 b s' nm L1.out (by omega)).mono ?_); rintro e w2 ⟨rfl, hL2, hG2⟩; have L2 := zZ hL2; have G2 := zZ hG2; have X2 := zZ (X1.out.keep (hG2.block _ X1.out.lt (fun e => by have := HLED.out.low _ e; omega))); have R2 := zZ (R1.out.keep (hG2.block _ R1.out.lt HNR.out)); rw [HCE.out]; clear hL2 hG2 y0))
    obtain ⟨m', u1, u2, E1, E2, hQ0⟩ := id L2.out
    obtain ⟨wx, wc, hw1⟩ := hQ0.ins.slice
    subst hw1
    have LQ := zZ hQ0
    clear hQ0
    refine zB [8] (fun d i u z => match i with
     | 0 => z = .pointer (some ⟨b, 0, none⟩)
     | 1 => z = .pointer (some ⟨b, 0, none⟩)
     | 2 => z = .pointer (some ⟨b, 1, none⟩)
     | 3 => z = .slice wx s'.I.length wc
     | 4 => z = .pointer (some ⟨wr.heap.size, 1, none⟩)
     | 5 => z = .int .i64 pa
     | 6 => z = .pointer (some ⟨wr.heap.size, 2, none⟩)
     | 7 => z = .int .i64 pp
     | 8 => z = .int .i64 (zE s'.I pa pp)
     | 9 => z = .int .i64 (zE s'.I pa pp)
     | _ => True) (fun d u => (d 8 = false -> Below w2.heap.size w2 u) /\ (d 8 = true -> mJ F w2 b ⟨(zL s'.ns nm).2, yK s'.I pa pp, s'.O⟩ u)) (by kernel_rfl) (by kernel_rfl) (by kernel_rfl) ?_ ?_ ?_ ?_ ?_ ?_ (by kernel_rfl)
    ·intro d i w v w' h hb
     match i, h with
     | 0, h => exact h
     | 1, h => exact h
     | 2, h => exact h
     | 3, h => exact h
     | 4, h => exact h
     | 5, h => exact h
     | 6, h => exact h
     | 7, h => exact h
     | 8, h => exact h
     | 9, h => exact h
     | _ + 10, _ => trivial
    ·intro d u u' h hb
     exact ⟨fun e => (h.1 e).trans (hb.mono (h.1 e).size), fun e => (h.2 e).later hb⟩
    ·exact ⟨fun _ => Below.refl _ _, fun e => absurd e (by decide)⟩
    ·intro d i o ρ w' hm ho hf hg hC hcs hfs hfr zY
     match i, hm, ho, hf, hg, hfr, zY with
     | 0, _, ho, hf, hg, hfr, zY =>
      simp only [qS] at ho
      subst ho
      refine ⟨fun _ => ?_, qF⟩
      have ts : ρ (.tmp 0) = .pointer (some ⟨b, 0, none⟩) := hfr 0 (by kernel_rfl)
      simp [go_sem, ts]
      exact qB
     | 1, _, ho, hf, hg, hfr, zY =>
      simp only [qS] at ho
      subst ho
      refine ⟨fun _ => ?_, qF⟩
      have d0 : ρ (.tmp 25) = .pointer (some ⟨b, 0, none⟩) := zY 0 25 (by kernel_rfl) (by kernel_rfl)
      simp [go_sem, d0]
      exact qB
     | 2, _, ho, hf, hg, hfr, zY =>
      simp only [qS] at ho
      subst ho
      refine ⟨fun _ => ?_, qF⟩
      have d0 : ρ (.tmp 26) = .pointer (some ⟨b, 0, none⟩) := zY 1 26 (by kernel_rfl) (by kernel_rfl)
      simp [go_sem, d0]
      exact qB
     | 3, _, ho, hf, hg, hfr, zY =>
      simp only [qS] at ho
      subst ho
      refine ⟨fun _ => ?_, qF⟩
      have cc : w'.cell? ⟨b, 1, none⟩ = some (.slice wx s'.I.length wc) := (LQ.out.blk.below (hC.1 (hf 8 (by decide) (by kernel_rfl)))).cell rfl
      have d0 : ρ (.tmp 27) = .pointer (some ⟨b, 1, none⟩) := zY 2 27 (by kernel_rfl) (by kernel_rfl)
      simp [go_sem, d0, cc]
      exact qB
     | 4, _, ho, hf, hg, hfr, zY =>
      simp only [qS] at ho
      subst ho
      refine ⟨fun _ => ?_, qF⟩
      have tq : ρ (.tmp 6) = .pointer (some ⟨wr.heap.size, 0, none⟩) := hfr 6 (by kernel_rfl)
      simp [go_sem, tq]
      exact qB
     | 5, _, ho, hf, hg, hfr, zY =>
      simp only [qS] at ho
      subst ho
      refine ⟨fun _ => ?_, qF⟩
      have cc : w'.cell? ⟨wr.heap.size, 1, none⟩ = some (.int .i64 pa) := (X2.out.below (hC.1 (hf 8 (by decide) (by kernel_rfl)))).cell rfl
      have d0 : ρ (.tmp 29) = .pointer (some ⟨wr.heap.size, 1, none⟩) := zY 4 29 (by kernel_rfl) (by kernel_rfl)
      simp [go_sem, d0, cc]
      exact qB
     | 6, _, ho, hf, hg, hfr, zY =>
      simp only [qS] at ho
      subst ho
      refine ⟨fun _ => ?_, qF⟩
      have tq : ρ (.tmp 6) = .pointer (some ⟨wr.heap.size, 0, none⟩) := hfr 6 (by kernel_rfl)
      simp [go_sem, tq]
      exact qB
     | 7, _, ho, hf, hg, hfr, zY =>
      simp only [qS] at ho
      subst ho
      refine ⟨fun _ => ?_, qF⟩
      have cc : w'.cell? ⟨wr.heap.size, 2, none⟩ = some (.int .i64 pp) := (X2.out.below (hC.1 (hf 8 (by decide) (by kernel_rfl)))).cell rfl
      have d0 : ρ (.tmp 31) = .pointer (some ⟨wr.heap.size, 2, none⟩) := zY 6 31 (by kernel_rfl) (by kernel_rfl)
      simp [go_sem, d0, cc]
      exact qB
     | 8, hm, _, _, _, _, _ => exact qD hm
     | 9, _, ho, hf, hg, hfr, zY =>
      simp only [qS] at ho
      subst ho
      refine ⟨fun _ => ?_, qF⟩
      have d0 : ρ (.tmp 33) = .int .i64 (zE s'.I pa pp) := zY 8 33 (by kernel_rfl) (by kernel_rfl)
      simp [go_sem, d0]
      exact qB
     | n + 10, _, ho, _, _, _, _ => simp at ho
    ·intro d i o ρ w' hm ho h0 hf hg hC hcs hfs hfr zY
     match i, hm, ho, h0, hf, hg, hfr, zY with
     | 0, hm, _, _, _, _, _, _ => exact qD hm
     | 1, hm, _, _, _, _, _, _ => exact qD hm
     | 2, hm, _, _, _, _, _, _ => exact qD hm
     | 3, hm, _, _, _, _, _, _ => exact qD hm
     | 4, hm, _, _, _, _, _, _ => exact qD hm
     | 5, hm, _, _, _, _, _, _ => exact qD hm
     | 6, hm, _, _, _, _, _, _ => exact qD hm
     | 7, hm, _, _, _, _, _, _ => exact qD hm
     | 8, _, ho, h0, hf, hg, hfr, zY =>
      simp only [qS] at ho
      subst ho
      have t3 : ρ (.tmp 28) = .slice wx s'.I.length wc := zY 3 28 (by kernel_rfl) (by kernel_rfl)
      have t5 : ρ (.tmp 30) = .int .i64 pa := zY 5 30 (by kernel_rfl) (by kernel_rfl)
      have t7 : ρ (.tmp 32) = .int .i64 pp := zY 7 32 (by kernel_rfl) (by kernel_rfl)
      refine ⟨rfl, ?_⟩
      simp [go_sem, t3, t5, t7, hfs, xJ]
      refine (kL (LQ.out.below (hC.1 h0)) HI'.out _ _).mono ?_
      rintro e u9 ⟨rfl, hL9, hC9'⟩
      exact ⟨rfl, fun e => absurd e (by simp [yN]), fun _ => ⟨hL9, (xX.of_below (hC.1 h0)).trans' hC9'⟩⟩
     | 9, hm, _, _, _, _, _, _ => exact qD hm
     | n + 10, _, ho, _, _, _, _, _ => simp at ho
    intro V w3 hC3 hS
    have e9 : V 9 = .int .i64 (zE s'.I pa pp) := hS 9 (by decide) (by intro h; cases h)
    simp only [yL, e9]
    simp only [Act.put, qU]
    clear hS e9
    obtain ⟨hL3, hG3⟩ := hC3.2 rfl
    have L3 := zZ hL3
    have G3 := zZ hG3
    have R3 := zZ (R2.out.keep (G3.out.block _ R2.out.lt HNR.out))
    clear hC3 hL3 hG3 LQ
    rw [HCO.out]
    by_cases h2 : co = 0
    ·subst h2
     go_wp2
     go_roundg (Es.length - (i + 1))
     case measure => omega
     case rel =>
      refine ⟨i + 1, _, by omega, rfl, by go_num, ?_, L3.out, ((HC.out.trans' (xX.of_below B1.out)).trans' G2.out).trans' G3.out, by show (zL s'.ns nm).2.length <= _; omega, wU HI'.out _ _, HO'.out⟩
      rw [HEQ.out, HDR.out]
      show (if _ then _ else _) = _
      rw [if_pos HCE.out, if_pos HCO.out]
    have e2 : (co != 0) = true := by simpa using h2
    go_wp2_with (refine zQ _ rfl (.tmp 4) (.tmp 38) rfl rfl w.heap.size _ _ _ _ _ _ _ _ rfl rfl R3.out ?_; intro w9 hNF hUF; have NF := zZ hNF; have UF := zZ hUF; clear hNF hUF)
    have z0 : w9.cell? ⟨w.heap.size, 0, none⟩ = some (.int .i64 co) := NF.out.cell rfl
    have z1 : w9.cell? ⟨w.heap.size, 1, none⟩ = some (.int .u8 3) := NF.out.cell rfl
    have z2 : w9.cell? ⟨w.heap.size, 2, none⟩ = some (.int .i64 (i : Int)) := NF.out.cell rfl
    have z3 : w9.cell? ⟨w.heap.size, 3, none⟩ = some (.int .u8 2) := NF.out.cell rfl
    refine bodyPost_ret (v := .agg #[.int .i64 co, .int .u8 3, .int .i64 (i : Int), .int .u8 2]) (by simp [results, Try.results40, go_sem, z0, z1, z2, z3]) rfl ?_
    refine ⟨?_, ?_, ?_⟩
    ·rw [HEQ.out, HDR.out]
     show _ = Ending.returned (iS (if _ then _ else _ : FL × LS).1)
     rw [if_pos HCE.out, if_neg (by rw [HCO.out]; exact h2), HCO.out]
     rfl
    ·rw [HEQ.out, HDR.out]
     show ((if _ then _ else _ : FL × LS).1).code = 0 -> _
     rw [if_pos HCE.out, if_neg (by rw [HCO.out]; exact h2), HCO.out]
     exact fun e => absurd e h2
    exact (((((xX.of_below BA.out).trans' HC.out).trans' (xX.of_below B1.out)).trans' G2.out).trans' G3.out).trans (UF.out.chg (F := fun k => k = w.heap.size) rfl) fun k hk => .inr (by omega)
   have e2 : (ce != 0) = true := by simpa using h1
   go_wp2_with (first
    | (refine zQ _ rfl (.tmp 4) (.tmp 24) rfl rfl w.heap.size _ _ _ _ _ _ _ _ rfl rfl R2.out ?_; intro w9 hNF hUF; have NF := zZ hNF; have UF := zZ hUF; clear hNF hUF)
    | (refine vI _ rfl (.tmp 6) (.tmp 15) rfl rfl wr.heap.size _ _ _ _ _ _ rfl rfl (zU 83 wr #[.string ⟨#[]⟩, .int .i64 0, .int .i64 0]) ?_; intro w1 hNA hUA; have X1 := zZ hNA; have b1 := ((Below.refl wr.heap.size wr).alloc (Nat.le_refl _) (.cells #[.string ⟨#[]⟩, .int .i64 0, .int .i64 0] 83)).trans (hUA.below (Nat.le_refl _) (by simp)); have B1 := zZ b1; have L1 := zZ (HLED.out.below b1); have R1 := zZ (NRW.out.below b1); have y0 : w1.cell? ⟨wr.heap.size, 0, none⟩ = some (.string (zW nm)) := hNA.cell rfl; clear hNA hUA b1)
    | (go_at_call 63; (with_reducible refine (vN F w1 b s' nm L1.out (by omega)).mono ?_); rintro e w2 ⟨rfl, hL2, hG2⟩; have L2 := zZ hL2; have G2 := zZ hG2; have X2 := zZ (X1.out.keep (hG2.block _ X1.out.lt (fun e => by have := HLED.out.low _ e; omega))); have R2 := zZ (R1.out.keep (hG2.block _ R1.out.lt HNR.out)); rw [HCE.out]; clear hL2 hG2 y0))
   have z0 : w9.cell? ⟨w.heap.size, 0, none⟩ = some (.int .i64 ce) := NF.out.cell rfl
   have z1 : w9.cell? ⟨w.heap.size, 1, none⟩ = some (.int .u8 3) := NF.out.cell rfl
   have z2 : w9.cell? ⟨w.heap.size, 2, none⟩ = some (.int .i64 (i : Int)) := NF.out.cell rfl
   have z3 : w9.cell? ⟨w.heap.size, 3, none⟩ = some (.int .u8 0) := NF.out.cell rfl
   refine bodyPost_ret (v := .agg #[.int .i64 ce, .int .u8 3, .int .i64 (i : Int), .int .u8 0]) (by simp [results, Try.results40, go_sem, z0, z1, z2, z3]) rfl ?_
   refine ⟨?_, ?_, ?_⟩
   ·rw [HEQ.out, HDR.out]
    show _ = Ending.returned (iS (if _ then _ else _ : FL × LS).1)
    rw [if_neg (by rw [HCE.out]; exact h1), HCE.out]
    rfl
   ·rw [HEQ.out, HDR.out]
    show ((if _ then _ else _ : FL × LS).1).code = 0 -> _
    rw [if_neg (by rw [HCE.out]; exact h1), HCE.out]
    exact fun e => absurd e h1
   exact ((((xX.of_below BA.out).trans' HC.out).trans' (xX.of_below B1.out)).trans' G2.out).trans (UF.out.chg (F := fun k => k = w.heap.size) rfl) fun k hk => .inr (by omega)
  have hii : ¬ (i : Int) < (Es.length : Int) := by omega
  have ei : i = Es.length := by omega
  go_wp2_with (refine zQ _ rfl (.tmp 4) (.tmp 40) rfl rfl w.heap.size _ _ _ _ _ _ _ _ rfl rfl NRW.out ?_; intro w9 hNF hUF; have NF := zZ hNF; have UF := zZ hUF; clear hNF hUF)
  have z0 : w9.cell? ⟨w.heap.size, 0, none⟩ = some (.int .i64 0) := NF.out.cell rfl
  have z1 : w9.cell? ⟨w.heap.size, 1, none⟩ = some (.int .u8 0) := NF.out.cell rfl
  have z2 : w9.cell? ⟨w.heap.size, 2, none⟩ = some (.int .i64 0) := NF.out.cell rfl
  have z3 : w9.cell? ⟨w.heap.size, 3, none⟩ = some (.int .u8 0) := NF.out.cell rfl
  refine bodyPost_ret (v := .agg #[.int .i64 0, .int .u8 0, .int .i64 0, .int .u8 0]) (by simp [results, Try.results40, go_sem, z0, z1, z2, z3]) rfl ?_
  refine ⟨?_, ?_, ?_⟩
  ·rw [HEQ.out, ei, List.drop_length]
   rfl
  ·rw [HEQ.out, ei, List.drop_length]
   exact fun _ => ⟨F, HLED.out.keep (fun k hk => UF.out.block k (HLED.out.low k hk) (fun e => HNR.out (e ▸ hk))) UF.out.size, fun k hk => .inl hk⟩
  exact ((xX.of_below BA.out).trans' HC.out).trans (UF.out.chg (F := fun k => k = w.heap.size) rfl) fun k hk => .inr (by omega)
theorem iB (F : Nat -> Prop) (w0 w : World) (b : Nat) (s : LS) (a : Option Addr) (Es : List GP) (cap : Nat) (h : rB F w b s) (hA : tO w0 a Es) (hw : Below w0.heap.size w0 w) (hF : ∀ k, F k -> w0.heap.size <= k) (hn : Es.length <= 16) (hns : s.ns.length <= 100) (hI : yQ s.I) (hO : yQ s.O) :
 Calls Try.prog 41 #[.pointer (some ⟨b, 0, none⟩), .slice a Es.length cap] w (iC F w b (vF Es 0 s)) := by
 have HA := zZ hA
 have HW := zZ hw
 have HF := zZ hF
 have sw := hw.size
 have ba := (Below.refl w.heap.size w).alloc (Nat.le_refl _) (.cells #[.int .i64 0, .int .u8 0, .int .i64 0, .int .u8 0] 52)
 have BA := zZ ba
 have HL := zZ (h.below ba)
 have HLO := zZ h.low
 have HI0 := zZ hI
 have HO0 := zZ hO
 have NR := zZ (zU 52 w #[.int .i64 0, .int .u8 0, .int .i64 0, .int .u8 0])
 have hsz : (w.alloc (.cells #[.int .i64 0, .int .u8 0, .int .i64 0, .int .u8 0] 52)).heap.size = w.heap.size + 1 := by simp
 have hnI : (Es.length : Int) <= 16 := by omega
 clear h hA hw hF ba hI hO
 go_enter Try.func41, Try.ntmps41
 go_upto_region 1 with fail
 generalize w.alloc (.cells #[.int .i64 0, .int .u8 0, .int .i64 0, .int .u8 0] 52) = W0 at *
 go_wp2
 go_loopg [11] Es.length (fun gk v wr => ∃ (i : Nat) (s' : LS), i <= Es.length /\ gk = Es.length - i /\ v = .int .i64 (i : Int) /\ vF Es 0 s = vF (Es.drop i) i s' /\ rB F wr b s' /\ xX F W0 wr /\ s'.ns.length <= s.ns.length + i /\ yQ s'.I /\ yQ s'.O)
 case atStart => exact ⟨0, s, Nat.zero_le _, rfl, rfl, rfl, HL.out, xX.of_below (Below.refl _ _), Nat.le_refl _, HI0.out, HO0.out⟩
 case round =>
  obtain ⟨i, s', hi, rfl, rfl, hEq, hLed, hChg, q1, hI', hO'⟩ := hrel
  have HEQ := zZ hEq
  have HLED := zZ hLed
  have HC := zZ hChg
  have HI' := zZ hI'
  have HO' := zZ hO'
  have swr := hChg.size
  have HNR : Hid (¬ F w.heap.size) := fun e => by have := HLO.out _ e; omega
  have NRW := zZ (NR.out.keep (hChg.block _ (by omega) HNR.out))
  have BW : Hid (Below w0.heap.size w0 wr) := by
   have p1 := HW.out.trans (BA.out.mono sw)
   exact p1.trans (hChg.below HF.out p1.size)
  clear hEq hLed hChg hI' hO'
  by_cases hlt : i < Es.length
  ·have hii : (i : Int) < (Es.length : Int) := by omega
   rcases HA.out with h0 | ⟨ab, ao, rfl, hc⟩
   ·rw [h0] at hlt; simp at hlt
   obtain ⟨a0', a1', a2'⟩ := hc i hlt
   have a0 := yF BW.out a0'
   have a1 := yF BW.out a1'
   have a2 := yF BW.out a2'
   have HDR := zZ (jN hlt)
   generalize zF Es i = E at *
   obtain ⟨nm, pa, pp⟩ := E
   clear hc a0' a1' a2'
   obtain ⟨ce, hce⟩ : ∃ q, (zL s'.ns nm).1 = q := ⟨_, rfl⟩
   have HCE := zZ hce
   have q4 := tN s'.ns nm
   clear hce
   by_cases h1 : ce = 0
   ·subst h1
    obtain ⟨co, hco⟩ : ∃ q, zE s'.O pa pp = q := ⟨_, rfl⟩
    have HCO := zZ hco
    clear hco
    go_upto_region 7 with (first
     | (refine vI _ rfl (.tmp 6) (.tmp 15) rfl rfl wr.heap.size _ _ _ _ _ _ rfl rfl (zU 83 wr #[.string ⟨#[]⟩, .int .i64 0, .int .i64 0]) ?_; intro w1 hNA hUA; have X1 := zZ hNA; have b1 := ((Below.refl wr.heap.size wr).alloc (Nat.le_refl _) (.cells #[.string ⟨#[]⟩, .int .i64 0, .int .i64 0] 83)).trans (hUA.below (Nat.le_refl _) (by simp)); have B1 := zZ b1; have L1 := zZ (HLED.out.below b1); have R1 := zZ (NRW.out.below b1); have y0 : w1.cell? ⟨wr.heap.size, 0, none⟩ = some (.string (zW nm)) := hNA.cell rfl; clear hNA hUA b1)
     | (go_at_call 63; (with_reducible refine (vN F w1 b s' nm L1.out (by omega)).mono ?_); rintro e w2 ⟨rfl, hL2, hG2⟩; have L2 := zZ hL2; have G2 := zZ hG2; have X2 := zZ (X1.out.keep (hG2.block _ X1.out.lt (fun e => by have := HLED.out.low _ e; omega))); have R2 := zZ (R1.out.keep (hG2.block _ R1.out.lt HNR.out)); rw [HCE.out]; clear hL2 hG2 y0))
    obtain ⟨m', u1, u2, E1, E2, hQ0⟩ := id L2.out
    obtain ⟨wx, wc, hw1⟩ := hQ0.outs.slice
    subst hw1
    have LQ := zZ hQ0
    clear hQ0
    refine zB [8] (fun d i u z => match i with
     | 0 => z = .pointer (some ⟨b, 0, none⟩)
     | 1 => z = .pointer (some ⟨b, 0, none⟩)
     | 2 => z = .pointer (some ⟨b, 2, none⟩)
     | 3 => z = .slice wx s'.O.length wc
     | 4 => z = .pointer (some ⟨wr.heap.size, 1, none⟩)
     | 5 => z = .int .i64 pa
     | 6 => z = .pointer (some ⟨wr.heap.size, 2, none⟩)
     | 7 => z = .int .i64 pp
     | 8 => z = .int .i64 (zE s'.O pa pp)
     | 9 => z = .int .i64 (zE s'.O pa pp)
     | _ => True) (fun d u => (d 8 = false -> Below w2.heap.size w2 u) /\ (d 8 = true -> mJ F w2 b ⟨(zL s'.ns nm).2, s'.I, yK s'.O pa pp⟩ u)) (by kernel_rfl) (by kernel_rfl) (by kernel_rfl) ?_ ?_ ?_ ?_ ?_ ?_ (by kernel_rfl)
    ·intro d i w v w' h hb
     match i, h with
     | 0, h => exact h
     | 1, h => exact h
     | 2, h => exact h
     | 3, h => exact h
     | 4, h => exact h
     | 5, h => exact h
     | 6, h => exact h
     | 7, h => exact h
     | 8, h => exact h
     | 9, h => exact h
     | _ + 10, _ => trivial
    ·intro d u u' h hb
     exact ⟨fun e => (h.1 e).trans (hb.mono (h.1 e).size), fun e => (h.2 e).later hb⟩
    ·exact ⟨fun _ => Below.refl _ _, fun e => absurd e (by decide)⟩
    ·intro d i o ρ w' hm ho hf hg hC hcs hfs hfr zY
     match i, hm, ho, hf, hg, hfr, zY with
     | 0, _, ho, hf, hg, hfr, zY =>
      simp only [qS] at ho
      subst ho
      refine ⟨fun _ => ?_, qF⟩
      have ts : ρ (.tmp 0) = .pointer (some ⟨b, 0, none⟩) := hfr 0 (by kernel_rfl)
      simp [go_sem, ts]
      exact qB
     | 1, _, ho, hf, hg, hfr, zY =>
      simp only [qS] at ho
      subst ho
      refine ⟨fun _ => ?_, qF⟩
      have d0 : ρ (.tmp 25) = .pointer (some ⟨b, 0, none⟩) := zY 0 25 (by kernel_rfl) (by kernel_rfl)
      simp [go_sem, d0]
      exact qB
     | 2, _, ho, hf, hg, hfr, zY =>
      simp only [qS] at ho
      subst ho
      refine ⟨fun _ => ?_, qF⟩
      have d0 : ρ (.tmp 26) = .pointer (some ⟨b, 0, none⟩) := zY 1 26 (by kernel_rfl) (by kernel_rfl)
      simp [go_sem, d0]
      exact qB
     | 3, _, ho, hf, hg, hfr, zY =>
      simp only [qS] at ho
      subst ho
      refine ⟨fun _ => ?_, qF⟩
      have cc : w'.cell? ⟨b, 2, none⟩ = some (.slice wx s'.O.length wc) := (LQ.out.blk.below (hC.1 (hf 8 (by decide) (by kernel_rfl)))).cell rfl
      have d0 : ρ (.tmp 27) = .pointer (some ⟨b, 2, none⟩) := zY 2 27 (by kernel_rfl) (by kernel_rfl)
      simp [go_sem, d0, cc]
      exact qB
     | 4, _, ho, hf, hg, hfr, zY =>
      simp only [qS] at ho
      subst ho
      refine ⟨fun _ => ?_, qF⟩
      have tq : ρ (.tmp 6) = .pointer (some ⟨wr.heap.size, 0, none⟩) := hfr 6 (by kernel_rfl)
      simp [go_sem, tq]
      exact qB
     | 5, _, ho, hf, hg, hfr, zY =>
      simp only [qS] at ho
      subst ho
      refine ⟨fun _ => ?_, qF⟩
      have cc : w'.cell? ⟨wr.heap.size, 1, none⟩ = some (.int .i64 pa) := (X2.out.below (hC.1 (hf 8 (by decide) (by kernel_rfl)))).cell rfl
      have d0 : ρ (.tmp 29) = .pointer (some ⟨wr.heap.size, 1, none⟩) := zY 4 29 (by kernel_rfl) (by kernel_rfl)
      simp [go_sem, d0, cc]
      exact qB
     | 6, _, ho, hf, hg, hfr, zY =>
      simp only [qS] at ho
      subst ho
      refine ⟨fun _ => ?_, qF⟩
      have tq : ρ (.tmp 6) = .pointer (some ⟨wr.heap.size, 0, none⟩) := hfr 6 (by kernel_rfl)
      simp [go_sem, tq]
      exact qB
     | 7, _, ho, hf, hg, hfr, zY =>
      simp only [qS] at ho
      subst ho
      refine ⟨fun _ => ?_, qF⟩
      have cc : w'.cell? ⟨wr.heap.size, 2, none⟩ = some (.int .i64 pp) := (X2.out.below (hC.1 (hf 8 (by decide) (by kernel_rfl)))).cell rfl
      have d0 : ρ (.tmp 31) = .pointer (some ⟨wr.heap.size, 2, none⟩) := zY 6 31 (by kernel_rfl) (by kernel_rfl)
      simp [go_sem, d0, cc]
      exact qB
     | 8, hm, _, _, _, _, _ => exact qD hm
     | 9, _, ho, hf, hg, hfr, zY =>
      simp only [qS] at ho
      subst ho
      refine ⟨fun _ => ?_, qF⟩
      have d0 : ρ (.tmp 33) = .int .i64 (zE s'.O pa pp) := zY 8 33 (by kernel_rfl) (by kernel_rfl)
      simp [go_sem, d0]
      exact qB
     | n + 10, _, ho, _, _, _, _ => simp at ho
    ·intro d i o ρ w' hm ho h0 hf hg hC hcs hfs hfr zY
     match i, hm, ho, h0, hf, hg, hfr, zY with
     | 0, hm, _, _, _, _, _, _ => exact qD hm
     | 1, hm, _, _, _, _, _, _ => exact qD hm
     | 2, hm, _, _, _, _, _, _ => exact qD hm
     | 3, hm, _, _, _, _, _, _ => exact qD hm
     | 4, hm, _, _, _, _, _, _ => exact qD hm
     | 5, hm, _, _, _, _, _, _ => exact qD hm
     | 6, hm, _, _, _, _, _, _ => exact qD hm
     | 7, hm, _, _, _, _, _, _ => exact qD hm
     | 8, _, ho, h0, hf, hg, hfr, zY =>
      simp only [qS] at ho
      subst ho
      have t3 : ρ (.tmp 28) = .slice wx s'.O.length wc := zY 3 28 (by kernel_rfl) (by kernel_rfl)
      have t5 : ρ (.tmp 30) = .int .i64 pa := zY 5 30 (by kernel_rfl) (by kernel_rfl)
      have t7 : ρ (.tmp 32) = .int .i64 pp := zY 7 32 (by kernel_rfl) (by kernel_rfl)
      refine ⟨rfl, ?_⟩
      simp [go_sem, t3, t5, t7, hfs, xJ]
      refine (kK (LQ.out.below (hC.1 h0)) HO'.out _ _).mono ?_
      rintro e u9 ⟨rfl, hL9, hC9'⟩
      exact ⟨rfl, fun e => absurd e (by simp [yN]), fun _ => ⟨hL9, (xX.of_below (hC.1 h0)).trans' hC9'⟩⟩
     | 9, hm, _, _, _, _, _, _ => exact qD hm
     | n + 10, _, ho, _, _, _, _, _ => simp at ho
    intro V w3 hC3 hS
    have e9 : V 9 = .int .i64 (zE s'.O pa pp) := hS 9 (by decide) (by intro h; cases h)
    simp only [yL, e9]
    simp only [Act.put, qU]
    clear hS e9
    obtain ⟨hL3, hG3⟩ := hC3.2 rfl
    have L3 := zZ hL3
    have G3 := zZ hG3
    have R3 := zZ (R2.out.keep (G3.out.block _ R2.out.lt HNR.out))
    clear hC3 hL3 hG3 LQ
    rw [HCO.out]
    by_cases h2 : co = 0
    ·subst h2
     go_wp2
     go_roundg (Es.length - (i + 1))
     case measure => omega
     case rel =>
      refine ⟨i + 1, _, by omega, rfl, by go_num, ?_, L3.out, ((HC.out.trans' (xX.of_below B1.out)).trans' G2.out).trans' G3.out, by show (zL s'.ns nm).2.length <= _; omega, HI'.out, wU HO'.out _ _⟩
      rw [HEQ.out, HDR.out]
      show (if _ then _ else _) = _
      rw [if_pos HCE.out, if_pos HCO.out]
    have e2 : (co != 0) = true := by simpa using h2
    go_wp2_with (refine zQ _ rfl (.tmp 4) (.tmp 38) rfl rfl w.heap.size _ _ _ _ _ _ _ _ rfl rfl R3.out ?_; intro w9 hNF hUF; have NF := zZ hNF; have UF := zZ hUF; clear hNF hUF)
    have z0 : w9.cell? ⟨w.heap.size, 0, none⟩ = some (.int .i64 co) := NF.out.cell rfl
    have z1 : w9.cell? ⟨w.heap.size, 1, none⟩ = some (.int .u8 4) := NF.out.cell rfl
    have z2 : w9.cell? ⟨w.heap.size, 2, none⟩ = some (.int .i64 (i : Int)) := NF.out.cell rfl
    have z3 : w9.cell? ⟨w.heap.size, 3, none⟩ = some (.int .u8 1) := NF.out.cell rfl
    refine bodyPost_ret (v := .agg #[.int .i64 co, .int .u8 4, .int .i64 (i : Int), .int .u8 1]) (by simp [results, Try.results41, go_sem, z0, z1, z2, z3]) rfl ?_
    refine ⟨?_, ?_, ?_⟩
    ·rw [HEQ.out, HDR.out]
     show _ = Ending.returned (iS (if _ then _ else _ : FL × LS).1)
     rw [if_pos HCE.out, if_neg (by rw [HCO.out]; exact h2), HCO.out]
     rfl
    ·rw [HEQ.out, HDR.out]
     show ((if _ then _ else _ : FL × LS).1).code = 0 -> _
     rw [if_pos HCE.out, if_neg (by rw [HCO.out]; exact h2), HCO.out]
     exact fun e => absurd e h2
    exact (((((xX.of_below BA.out).trans' HC.out).trans' (xX.of_below B1.out)).trans' G2.out).trans' G3.out).trans (UF.out.chg (F := fun k => k = w.heap.size) rfl) fun k hk => .inr (by omega)
   have e2 : (ce != 0) = true := by simpa using h1
   go_wp2_with (first
    | (refine zQ _ rfl (.tmp 4) (.tmp 24) rfl rfl w.heap.size _ _ _ _ _ _ _ _ rfl rfl R2.out ?_; intro w9 hNF hUF; have NF := zZ hNF; have UF := zZ hUF; clear hNF hUF)
    | (refine vI _ rfl (.tmp 6) (.tmp 15) rfl rfl wr.heap.size _ _ _ _ _ _ rfl rfl (zU 83 wr #[.string ⟨#[]⟩, .int .i64 0, .int .i64 0]) ?_; intro w1 hNA hUA; have X1 := zZ hNA; have b1 := ((Below.refl wr.heap.size wr).alloc (Nat.le_refl _) (.cells #[.string ⟨#[]⟩, .int .i64 0, .int .i64 0] 83)).trans (hUA.below (Nat.le_refl _) (by simp)); have B1 := zZ b1; have L1 := zZ (HLED.out.below b1); have R1 := zZ (NRW.out.below b1); have y0 : w1.cell? ⟨wr.heap.size, 0, none⟩ = some (.string (zW nm)) := hNA.cell rfl; clear hNA hUA b1)
    | (go_at_call 63; (with_reducible refine (vN F w1 b s' nm L1.out (by omega)).mono ?_); rintro e w2 ⟨rfl, hL2, hG2⟩; have L2 := zZ hL2; have G2 := zZ hG2; have X2 := zZ (X1.out.keep (hG2.block _ X1.out.lt (fun e => by have := HLED.out.low _ e; omega))); have R2 := zZ (R1.out.keep (hG2.block _ R1.out.lt HNR.out)); rw [HCE.out]; clear hL2 hG2 y0))
   have z0 : w9.cell? ⟨w.heap.size, 0, none⟩ = some (.int .i64 ce) := NF.out.cell rfl
   have z1 : w9.cell? ⟨w.heap.size, 1, none⟩ = some (.int .u8 4) := NF.out.cell rfl
   have z2 : w9.cell? ⟨w.heap.size, 2, none⟩ = some (.int .i64 (i : Int)) := NF.out.cell rfl
   have z3 : w9.cell? ⟨w.heap.size, 3, none⟩ = some (.int .u8 0) := NF.out.cell rfl
   refine bodyPost_ret (v := .agg #[.int .i64 ce, .int .u8 4, .int .i64 (i : Int), .int .u8 0]) (by simp [results, Try.results41, go_sem, z0, z1, z2, z3]) rfl ?_
   refine ⟨?_, ?_, ?_⟩
   ·rw [HEQ.out, HDR.out]
    show _ = Ending.returned (iS (if _ then _ else _ : FL × LS).1)
    rw [if_neg (by rw [HCE.out]; exact h1), HCE.out]
    rfl
   ·rw [HEQ.out, HDR.out]
    show ((if _ then _ else _ : FL × LS).1).code = 0 -> _
    rw [if_neg (by rw [HCE.out]; exact h1), HCE.out]
    exact fun e => absurd e h1
   exact ((((xX.of_below BA.out).trans' HC.out).trans' (xX.of_below B1.out)).trans' G2.out).trans (UF.out.chg (F := fun k => k = w.heap.size) rfl) fun k hk => .inr (by omega)
  have hii : ¬ (i : Int) < (Es.length : Int) := by omega
  have ei : i = Es.length := by omega
  go_wp2_with (refine zQ _ rfl (.tmp 4) (.tmp 40) rfl rfl w.heap.size _ _ _ _ _ _ _ _ rfl rfl NRW.out ?_; intro w9 hNF hUF; have NF := zZ hNF; have UF := zZ hUF; clear hNF hUF)
  have z0 : w9.cell? ⟨w.heap.size, 0, none⟩ = some (.int .i64 0) := NF.out.cell rfl
  have z1 : w9.cell? ⟨w.heap.size, 1, none⟩ = some (.int .u8 0) := NF.out.cell rfl
  have z2 : w9.cell? ⟨w.heap.size, 2, none⟩ = some (.int .i64 0) := NF.out.cell rfl
  have z3 : w9.cell? ⟨w.heap.size, 3, none⟩ = some (.int .u8 0) := NF.out.cell rfl
  refine bodyPost_ret (v := .agg #[.int .i64 0, .int .u8 0, .int .i64 0, .int .u8 0]) (by simp [results, Try.results41, go_sem, z0, z1, z2, z3]) rfl ?_
  refine ⟨?_, ?_, ?_⟩
  ·rw [HEQ.out, ei, List.drop_length]
   rfl
  ·rw [HEQ.out, ei, List.drop_length]
   exact fun _ => ⟨F, HLED.out.keep (fun k hk => UF.out.block k (HLED.out.low k hk) (fun e => HNR.out (e ▸ hk))) UF.out.size, fun k hk => .inl hk⟩
  exact ((xX.of_below BA.out).trans' HC.out).trans (UF.out.chg (F := fun k => k = w.heap.size) rfl) fun k hk => .inr (by omega)
theorem jL (F : Nat -> Prop) (w : World) (b : Nat) (s : LS) (a : Option Addr) (n cap : Nat) (h : rB F w b s) (hI : yQ s.I) (hO : yQ s.O) (h1 : n <= s.I.length) (h2 : n <= s.O.length) :
 Calls Try.prog 42 #[.pointer (some ⟨b, 0, none⟩), .slice a n cap] w fun e w' => e = .returned (iS (sC s.I s.O n 0)) /\ Below w.heap.size w w' := by
 have ba := (Below.refl w.heap.size w).alloc (Nat.le_refl _) (.cells #[.int .i64 0, .int .u8 0, .int .i64 0, .int .u8 0] 52)
 have BA := zZ ba
 have NR := zZ (zU 52 w #[.int .i64 0, .int .u8 0, .int .i64 0, .int .u8 0])
 obtain ⟨m, v1, v2, F1, F2, hP⟩ := h.below ba
 obtain ⟨vx, vc, rfl⟩ := hP.ins.slice
 obtain ⟨wx, wc, rfl⟩ := hP.outs.slice
 have GI : Hid (∀ i, i < n -> Calls Try.prog 66 #[.slice vx s.I.length vc, .int .i64 (i : Int)] (w.alloc (.cells #[.int .i64 0, .int .u8 0, .int .i64 0, .int .u8 0] 52)) fun e w' => e = .returned (.bool (pM s.I i)) /\ w' = w.alloc (.cells #[.int .i64 0, .int .u8 0, .int .i64 0, .int .u8 0] 52)) := fun i hi => dU F1 _ _ s.I i hP.ins (by omega) (by have := hI.1; omega) (fun j => by have := hI.2 j; omega)
 have GO : Hid (∀ i, i < n -> Calls Try.prog 66 #[.slice wx s.O.length wc, .int .i64 (i : Int)] (w.alloc (.cells #[.int .i64 0, .int .u8 0, .int .i64 0, .int .u8 0] 52)) fun e w' => e = .returned (.bool (pM s.O i)) /\ w' = w.alloc (.cells #[.int .i64 0, .int .u8 0, .int .i64 0, .int .u8 0] 52)) := fun i hi => dU F2 _ _ s.O i hP.outs (by omega) (by have := hO.1; omega) (fun j => by have := hO.2 j; omega)
 have y1 := hP.blk.cell (k := 1) rfl
 have y2 := hP.blk.cell (k := 2) rfl
 have hnn : (n : Int) <= 200 := by have := hI.1; omega
 clear h hP hI hO ba h1 h2
 go_enter Try.func42, Try.ntmps42
 go_upto_region 1 with fail
 generalize w.alloc (.cells #[.int .i64 0, .int .u8 0, .int .i64 0, .int .u8 0] 52) = W0 at *
 go_wp2
 go_loopg [8] n (fun gk v wr => ∃ i : Nat, i <= n /\ gk = n - i /\ v = .int .i64 (i : Int) /\ wr = W0 /\ sC s.I s.O n 0 = sC s.I s.O (n - i) i)
 case atStart => exact ⟨0, Nat.zero_le _, rfl, rfl, rfl, rfl⟩
 case round =>
  obtain ⟨i, hi, rfl, rfl, rfl, hEq⟩ := hrel
  have HEQ := zZ hEq
  clear hEq
  by_cases hlt : i < n
  ·have hii : (i : Int) < (n : Int) := by omega
   have HGI := zZ (GI.out i hlt)
   have HGO := zZ (GO.out i hlt)
   have HU : Hid (sC s.I s.O (n - i) i = if pM s.I i = true \/ pM s.O i = true then ⟨87, 1, i, 0⟩ else sC s.I s.O (n - (i + 1)) (i + 1)) := by
    show _ = _
    obtain ⟨q, hq⟩ : ∃ q, n - i = q + 1 := ⟨n - i - 1, by omega⟩
    rw [hq, show n - (i + 1) = q by omega]
    rfl
   generalize pM s.I i = p1 at *
   generalize pM s.O i = p2 at *
   cases p1
   ·cases p2
    ·go_wp2_with (first
      | (go_at_call 66; (with_reducible refine HGI.out.mono ?_); rintro e w' ⟨rfl, rfl⟩)
      | (go_at_call 66; (with_reducible refine HGO.out.mono ?_); rintro e w' ⟨rfl, rfl⟩))
     go_roundg (n - (i + 1))
     case measure => omega
     case rel => exact ⟨i + 1, by omega, rfl, by go_num, rfl, by rw [HEQ.out, HU.out]; rfl⟩
    go_wp2_with (first
     | (refine zQ _ rfl (.tmp 4) (.tmp 26) rfl rfl w.heap.size _ _ _ _ _ _ _ _ rfl rfl NR.out ?_; intro w9 hNF hUF; have NF := zZ hNF; have UF := zZ hUF; clear hNF hUF)
     | (go_at_call 66; (with_reducible refine HGI.out.mono ?_); rintro e w' ⟨rfl, rfl⟩)
     | (go_at_call 66; (with_reducible refine HGO.out.mono ?_); rintro e w' ⟨rfl, rfl⟩))
    have z0 : w9.cell? ⟨w.heap.size, 0, none⟩ = some (.int .i64 87) := NF.out.cell rfl
    have z1 : w9.cell? ⟨w.heap.size, 1, none⟩ = some (.int .u8 1) := NF.out.cell rfl
    have z2 : w9.cell? ⟨w.heap.size, 2, none⟩ = some (.int .i64 (i : Int)) := NF.out.cell rfl
    have z3 : w9.cell? ⟨w.heap.size, 3, none⟩ = some (.int .u8 0) := NF.out.cell rfl
    refine bodyPost_ret (v := .agg #[.int .i64 87, .int .u8 1, .int .i64 (i : Int), .int .u8 0]) (by simp [results, Try.results42, go_sem, z0, z1, z2, z3]) rfl ?_
    exact ⟨by rw [HEQ.out, HU.out]; rfl, BA.out.trans (UF.out.below (Nat.le_refl _) BA.out.size)⟩
   go_wp2_with (first
    | (refine zQ _ rfl (.tmp 4) (.tmp 26) rfl rfl w.heap.size _ _ _ _ _ _ _ _ rfl rfl NR.out ?_; intro w9 hNF hUF; have NF := zZ hNF; have UF := zZ hUF; clear hNF hUF)
    | (go_at_call 66; (with_reducible refine HGI.out.mono ?_); rintro e w' ⟨rfl, rfl⟩))
   have z0 : w9.cell? ⟨w.heap.size, 0, none⟩ = some (.int .i64 87) := NF.out.cell rfl
   have z1 : w9.cell? ⟨w.heap.size, 1, none⟩ = some (.int .u8 1) := NF.out.cell rfl
   have z2 : w9.cell? ⟨w.heap.size, 2, none⟩ = some (.int .i64 (i : Int)) := NF.out.cell rfl
   have z3 : w9.cell? ⟨w.heap.size, 3, none⟩ = some (.int .u8 0) := NF.out.cell rfl
   refine bodyPost_ret (v := .agg #[.int .i64 87, .int .u8 1, .int .i64 (i : Int), .int .u8 0]) (by simp [results, Try.results42, go_sem, z0, z1, z2, z3]) rfl ?_
   exact ⟨by rw [HEQ.out, HU.out, if_pos (by simp)]; rfl, BA.out.trans (UF.out.below (Nat.le_refl _) BA.out.size)⟩
  have hii : ¬ (i : Int) < (n : Int) := by omega
  have ei : n - i = 0 := by omega
  go_wp2_with (refine zQ _ rfl (.tmp 4) (.tmp 28) rfl rfl w.heap.size _ _ _ _ _ _ _ _ rfl rfl NR.out ?_; intro w9 hNF hUF; have NF := zZ hNF; have UF := zZ hUF; clear hNF hUF)
  have z0 : w9.cell? ⟨w.heap.size, 0, none⟩ = some (.int .i64 0) := NF.out.cell rfl
  have z1 : w9.cell? ⟨w.heap.size, 1, none⟩ = some (.int .u8 0) := NF.out.cell rfl
  have z2 : w9.cell? ⟨w.heap.size, 2, none⟩ = some (.int .i64 0) := NF.out.cell rfl
  have z3 : w9.cell? ⟨w.heap.size, 3, none⟩ = some (.int .u8 0) := NF.out.cell rfl
  refine bodyPost_ret (v := .agg #[.int .i64 0, .int .u8 0, .int .i64 0, .int .u8 0]) (by simp [results, Try.results42, go_sem, z0, z1, z2, z3]) rfl ?_
  exact ⟨by rw [HEQ.out, ei]; rfl, BA.out.trans (UF.out.below (Nat.le_refl _) BA.out.size)⟩
def SurE (w : World) (k : Int) (n : Int) (e : Ending) (w' : World) : Prop := e = .returned (.agg #[.int .i64 81, .int .u8 k, .int .i64 n, .int .u8 0]) /\ Below w.heap.size w w'
theorem uA (k n : Int) (w : World) : Calls Try.prog 62 #[.int .u8 k, .int .i64 n] w (SurE w k n) := by
 have BA := zZ ((Below.refl w.heap.size w).alloc (Nat.le_refl _) (.cells #[.int .i64 0, .int .u8 0, .int .i64 0, .int .u8 0] 52))
 have NR := zZ (zU 52 w #[.int .i64 0, .int .u8 0, .int .i64 0, .int .u8 0])
 go_enter Try.func62, Try.ntmps62
 go_upto_region 1 with fail
 generalize w.alloc (.cells #[.int .i64 0, .int .u8 0, .int .i64 0, .int .u8 0] 52) = W0 at *
 go_wp2_with (refine zQ _ rfl (.tmp 4) (.tmp 7) rfl rfl w.heap.size _ _ _ _ _ _ _ _ rfl rfl NR.out ?_; intro w9 hNF hUF; have NF := zZ hNF; have UF := zZ hUF; clear hNF hUF)
 have z0 : w9.cell? ⟨w.heap.size, 0, none⟩ = some (.int .i64 81) := NF.out.cell rfl
 have z1 : w9.cell? ⟨w.heap.size, 1, none⟩ = some (.int .u8 k) := NF.out.cell rfl
 have z2 : w9.cell? ⟨w.heap.size, 2, none⟩ = some (.int .i64 n) := NF.out.cell rfl
 have z3 : w9.cell? ⟨w.heap.size, 3, none⟩ = some (.int .u8 0) := NF.out.cell rfl
 refine bodyPost_ret (v := .agg #[.int .i64 81, .int .u8 k, .int .i64 n, .int .u8 0]) (by simp [results, Try.results62, go_sem, z0, z1, z2, z3]) rfl ?_
 exact ⟨rfl, BA.out.trans (UF.out.below (Nat.le_refl _) BA.out.size)⟩
theorem jK (g : GG) (a1 a2 a3 a4 : Option Addr) (c1 c2 c3 c4 : Nat) (w : World) (l1 : g.A.length <= 1000000000000000) (l2 : g.E.length <= 1000000000000000) (l3 : g.ins.length <= 1000000000000000) (l4 : g.outs.length <= 1000000000000000) :
 Calls Try.prog 37 #[.agg #[.string (zW g.name), .slice a1 g.A.length c1, .slice a2 g.E.length c2, .slice a3 g.ins.length c3, .slice a4 g.outs.length c4]] w fun e w' => e = .returned (iS (xD g)) /\ Below w.heap.size w w' := by
 have ba := ((Below.refl w.heap.size w).alloc (Nat.le_refl _) (.cells #[.string (zW g.name), .slice a1 g.A.length c1, .slice a2 g.E.length c2, .slice a3 g.ins.length c3, .slice a4 g.outs.length c4] 31)).alloc (by simp) (.cells #[.int .i64 0, .int .u8 0, .int .i64 0, .int .u8 0] 52)
 have BA := zZ ba
 have gg := (zU 31 w #[.string (zW g.name), .slice a1 g.A.length c1, .slice a2 g.E.length c2, .slice a3 g.ins.length c3, .slice a4 g.outs.length c4]).below ((Below.refl _ _).alloc (Nat.le_refl _) (.cells #[.int .i64 0, .int .u8 0, .int .i64 0, .int .u8 0] 52))
 have nr : zN 52 (w.heap.size + 1) ((w.alloc (.cells #[.string (zW g.name), .slice a1 g.A.length c1, .slice a2 g.E.length c2, .slice a3 g.ins.length c3, .slice a4 g.outs.length c4] 31)).alloc (.cells #[.int .i64 0, .int .u8 0, .int .i64 0, .int .u8 0] 52)) #[.int .i64 0, .int .u8 0, .int .i64 0, .int .u8 0] := by
  have h3 := zU 52 (w.alloc (.cells #[.string (zW g.name), .slice a1 g.A.length c1, .slice a2 g.E.length c2, .slice a3 g.ins.length c3, .slice a4 g.outs.length c4] 31)) #[.int .i64 0, .int .u8 0, .int .i64 0, .int .u8 0]
  rw [World.size_alloc] at h3
  exact h3
 have HG := zZ gg
 have NR := zZ nr
 have NM := zZ (iI g.name)
 have y0 := gg.cell (k := 0) rfl
 clear ba gg nr
 obtain ⟨n1, h1⟩ : ∃ q, g.A.length = q := ⟨_, rfl⟩
 obtain ⟨n2, h2⟩ : ∃ q, g.E.length = q := ⟨_, rfl⟩
 obtain ⟨n3, h3⟩ : ∃ q, g.ins.length = q := ⟨_, rfl⟩
 obtain ⟨n4, h4⟩ : ∃ q, g.outs.length = q := ⟨_, rfl⟩
 obtain ⟨nb, hnb⟩ : ∃ q, yM g.name = q := ⟨_, rfl⟩
 have hd : xD g = if nb = false then ⟨82, 0, 0, 0⟩ else if n1 = 0 then ⟨80, 0, 0, 0⟩ else if 32 < n1 then ⟨81, 1, 32, 0⟩ else if 96 < n2 then ⟨81, 2, 96, 0⟩ else if 16 < n3 then ⟨81, 3, 16, 0⟩ else if 16 < n4 then ⟨81, 4, 16, 0⟩ else bC := by
  unfold xD
  rw [h1, h2, h3, h4, hnb]
 have HD := zZ hd
 rw [hnb] at NM
 rw [h1, h2, h3, h4] at BA HG NR y0
 rw [h1] at l1
 rw [h2] at l2
 rw [h3] at l3
 rw [h4] at l4
 rw [h1, h2, h3, h4]
 clear hd h1 h2 h3 h4 hnb
 cases nb
 ·go_enter Try.func37, Try.ntmps37
  go_upto_region 1 with fail
  generalize (w.alloc (.cells #[.string (zW g.name), .slice a1 n1 c1, .slice a2 n2 c2, .slice a3 n3 c3, .slice a4 n4 c4] 31)).alloc (.cells #[.int .i64 0, .int .u8 0, .int .i64 0, .int .u8 0] 52) = W0 at *
  go_wp2_with (first | (refine zQ _ rfl (.tmp 2) (.tmp 8) rfl rfl (w.heap.size + 1) _ _ _ _ _ _ _ _ rfl rfl N1.out ?_; intro w9 hNF hUF; have NF := zZ hNF; have UF := zZ hUF; clear hNF hUF) | (go_at_call 61; (with_reducible refine (NM.out W0).mono ?_); rintro e w1 ⟨rfl, b1⟩; have G1 := HG.out.below b1; have N1 := zZ (NR.out.below b1); have B1 := zZ b1; have x1 : w1.cell? ⟨w.heap.size, 1, none⟩ = some (.slice a1 n1 c1) := G1.cell rfl; have x2 : w1.cell? ⟨w.heap.size, 2, none⟩ = some (.slice a2 n2 c2) := G1.cell rfl; have x3 : w1.cell? ⟨w.heap.size, 3, none⟩ = some (.slice a3 n3 c3) := G1.cell rfl; have x4 : w1.cell? ⟨w.heap.size, 4, none⟩ = some (.slice a4 n4 c4) := G1.cell rfl; clear G1 b1 y0))
  have z0 : w9.cell? ⟨w.heap.size + 1, 0, none⟩ = some (.int .i64 82) := NF.out.cell rfl
  have z1 : w9.cell? ⟨w.heap.size + 1, 1, none⟩ = some (.int .u8 0) := NF.out.cell rfl
  have z2 : w9.cell? ⟨w.heap.size + 1, 2, none⟩ = some (.int .i64 0) := NF.out.cell rfl
  have z3 : w9.cell? ⟨w.heap.size + 1, 3, none⟩ = some (.int .u8 0) := NF.out.cell rfl
  refine bodyPost_ret (v := .agg #[.int .i64 82, .int .u8 0, .int .i64 0, .int .u8 0]) (by simp [results, Try.results37, go_sem, z0, z1, z2, z3]) rfl ?_
  have p1 := BA.out.trans (B1.out.mono BA.out.size)
  exact ⟨by rw [HD.out, if_pos (by simp)]; rfl, p1.trans (UF.out.below (Nat.le_succ _) p1.size)⟩
 skip
 by_cases k0 : n1 = 0
 ·have i0 : (n1 : Int) = 0 := by omega
  have j0 : ((n1 : Int) == 0) = true := by simpa using i0
  have K0 := zZ k0
  clear i0 k0
  go_enter Try.func37, Try.ntmps37
  go_upto_region 1 with fail
  generalize (w.alloc (.cells #[.string (zW g.name), .slice a1 n1 c1, .slice a2 n2 c2, .slice a3 n3 c3, .slice a4 n4 c4] 31)).alloc (.cells #[.int .i64 0, .int .u8 0, .int .i64 0, .int .u8 0] 52) = W0 at *
  go_wp2_with (first | (refine zQ _ rfl (.tmp 2) (.tmp 14) rfl rfl (w.heap.size + 1) _ _ _ _ _ _ _ _ rfl rfl N1.out ?_; intro w9 hNF hUF; have NF := zZ hNF; have UF := zZ hUF; clear hNF hUF) | (go_at_call 61; (with_reducible refine (NM.out W0).mono ?_); rintro e w1 ⟨rfl, b1⟩; have G1 := HG.out.below b1; have N1 := zZ (NR.out.below b1); have B1 := zZ b1; have x1 : w1.cell? ⟨w.heap.size, 1, none⟩ = some (.slice a1 n1 c1) := G1.cell rfl; have x2 : w1.cell? ⟨w.heap.size, 2, none⟩ = some (.slice a2 n2 c2) := G1.cell rfl; have x3 : w1.cell? ⟨w.heap.size, 3, none⟩ = some (.slice a3 n3 c3) := G1.cell rfl; have x4 : w1.cell? ⟨w.heap.size, 4, none⟩ = some (.slice a4 n4 c4) := G1.cell rfl; clear G1 b1 y0))
  have z0 : w9.cell? ⟨w.heap.size + 1, 0, none⟩ = some (.int .i64 80) := NF.out.cell rfl
  have z1 : w9.cell? ⟨w.heap.size + 1, 1, none⟩ = some (.int .u8 0) := NF.out.cell rfl
  have z2 : w9.cell? ⟨w.heap.size + 1, 2, none⟩ = some (.int .i64 0) := NF.out.cell rfl
  have z3 : w9.cell? ⟨w.heap.size + 1, 3, none⟩ = some (.int .u8 0) := NF.out.cell rfl
  refine bodyPost_ret (v := .agg #[.int .i64 80, .int .u8 0, .int .i64 0, .int .u8 0]) (by simp [results, Try.results37, go_sem, z0, z1, z2, z3]) rfl ?_
  have p1 := BA.out.trans (B1.out.mono BA.out.size)
  exact ⟨by rw [HD.out, if_neg (by simp), if_pos K0.out]; rfl, p1.trans (UF.out.below (Nat.le_succ _) p1.size)⟩
 have i0 : ¬ (n1 : Int) = 0 := by omega
 have j0 : ((n1 : Int) == 0) = false := by simpa using i0
 by_cases k1 : 32 < n1
 ·have i1 : (32 : Int) < (n1 : Int) := by omega
  go_enter Try.func37, Try.ntmps37
  go_upto_region 1 with fail
  generalize (w.alloc (.cells #[.string (zW g.name), .slice a1 n1 c1, .slice a2 n2 c2, .slice a3 n3 c3, .slice a4 n4 c4] 31)).alloc (.cells #[.int .i64 0, .int .u8 0, .int .i64 0, .int .u8 0] 52) = W0 at *
  go_wp2_with (first | (refine zQ _ rfl (.tmp 2) (.tmp 20) rfl rfl (w.heap.size + 1) _ _ _ _ _ _ _ _ rfl rfl N2.out ?_; intro w9 hNF hUF; have NF := zZ hNF; have UF := zZ hUF; clear hNF hUF) | (go_at_call 61; (with_reducible refine (NM.out W0).mono ?_); rintro e w1 ⟨rfl, b1⟩; have G1 := HG.out.below b1; have N1 := zZ (NR.out.below b1); have B1 := zZ b1; have x1 : w1.cell? ⟨w.heap.size, 1, none⟩ = some (.slice a1 n1 c1) := G1.cell rfl; have x2 : w1.cell? ⟨w.heap.size, 2, none⟩ = some (.slice a2 n2 c2) := G1.cell rfl; have x3 : w1.cell? ⟨w.heap.size, 3, none⟩ = some (.slice a3 n3 c3) := G1.cell rfl; have x4 : w1.cell? ⟨w.heap.size, 4, none⟩ = some (.slice a4 n4 c4) := G1.cell rfl; clear G1 b1 y0) | (go_at_call 62; (with_reducible refine (uA 1 32 w1).mono ?_); rintro e w2 ⟨rfl, b2⟩; have B2 := zZ b2; have N2 := zZ (N1.out.below b2); clear b2))
  have z0 : w9.cell? ⟨w.heap.size + 1, 0, none⟩ = some (.int .i64 81) := NF.out.cell rfl
  have z1 : w9.cell? ⟨w.heap.size + 1, 1, none⟩ = some (.int .u8 1) := NF.out.cell rfl
  have z2 : w9.cell? ⟨w.heap.size + 1, 2, none⟩ = some (.int .i64 32) := NF.out.cell rfl
  have z3 : w9.cell? ⟨w.heap.size + 1, 3, none⟩ = some (.int .u8 0) := NF.out.cell rfl
  refine bodyPost_ret (v := .agg #[.int .i64 81, .int .u8 1, .int .i64 32, .int .u8 0]) (by simp [results, Try.results37, go_sem, z0, z1, z2, z3]) rfl ?_
  have p1 := BA.out.trans (B1.out.mono BA.out.size)
  have p2 := p1.trans (B2.out.mono p1.size)
  exact ⟨by rw [HD.out, if_neg (by simp), if_neg k0, if_pos k1]; rfl, p2.trans (UF.out.below (Nat.le_succ _) p2.size)⟩
 have i1 : ¬ (32 : Int) < (n1 : Int) := by omega
 by_cases k2 : 96 < n2
 ·have i2 : (96 : Int) < (n2 : Int) := by omega
  go_enter Try.func37, Try.ntmps37
  go_upto_region 1 with fail
  generalize (w.alloc (.cells #[.string (zW g.name), .slice a1 n1 c1, .slice a2 n2 c2, .slice a3 n3 c3, .slice a4 n4 c4] 31)).alloc (.cells #[.int .i64 0, .int .u8 0, .int .i64 0, .int .u8 0] 52) = W0 at *
  go_wp2_with (first | (refine zQ _ rfl (.tmp 2) (.tmp 26) rfl rfl (w.heap.size + 1) _ _ _ _ _ _ _ _ rfl rfl N2.out ?_; intro w9 hNF hUF; have NF := zZ hNF; have UF := zZ hUF; clear hNF hUF) | (go_at_call 61; (with_reducible refine (NM.out W0).mono ?_); rintro e w1 ⟨rfl, b1⟩; have G1 := HG.out.below b1; have N1 := zZ (NR.out.below b1); have B1 := zZ b1; have x1 : w1.cell? ⟨w.heap.size, 1, none⟩ = some (.slice a1 n1 c1) := G1.cell rfl; have x2 : w1.cell? ⟨w.heap.size, 2, none⟩ = some (.slice a2 n2 c2) := G1.cell rfl; have x3 : w1.cell? ⟨w.heap.size, 3, none⟩ = some (.slice a3 n3 c3) := G1.cell rfl; have x4 : w1.cell? ⟨w.heap.size, 4, none⟩ = some (.slice a4 n4 c4) := G1.cell rfl; clear G1 b1 y0) | (go_at_call 62; (with_reducible refine (uA 2 96 w1).mono ?_); rintro e w2 ⟨rfl, b2⟩; have B2 := zZ b2; have N2 := zZ (N1.out.below b2); clear b2))
  have z0 : w9.cell? ⟨w.heap.size + 1, 0, none⟩ = some (.int .i64 81) := NF.out.cell rfl
  have z1 : w9.cell? ⟨w.heap.size + 1, 1, none⟩ = some (.int .u8 2) := NF.out.cell rfl
  have z2 : w9.cell? ⟨w.heap.size + 1, 2, none⟩ = some (.int .i64 96) := NF.out.cell rfl
  have z3 : w9.cell? ⟨w.heap.size + 1, 3, none⟩ = some (.int .u8 0) := NF.out.cell rfl
  refine bodyPost_ret (v := .agg #[.int .i64 81, .int .u8 2, .int .i64 96, .int .u8 0]) (by simp [results, Try.results37, go_sem, z0, z1, z2, z3]) rfl ?_
  have p1 := BA.out.trans (B1.out.mono BA.out.size)
  have p2 := p1.trans (B2.out.mono p1.size)
  exact ⟨by rw [HD.out, if_neg (by simp), if_neg k0, if_neg k1, if_pos k2]; rfl, p2.trans (UF.out.below (Nat.le_succ _) p2.size)⟩
 have i2 : ¬ (96 : Int) < (n2 : Int) := by omega
 by_cases k3 : 16 < n3
 ·have i3 : (16 : Int) < (n3 : Int) := by omega
  go_enter Try.func37, Try.ntmps37
  go_upto_region 1 with fail
  generalize (w.alloc (.cells #[.string (zW g.name), .slice a1 n1 c1, .slice a2 n2 c2, .slice a3 n3 c3, .slice a4 n4 c4] 31)).alloc (.cells #[.int .i64 0, .int .u8 0, .int .i64 0, .int .u8 0] 52) = W0 at *
  go_wp2_with (first | (refine zQ _ rfl (.tmp 2) (.tmp 32) rfl rfl (w.heap.size + 1) _ _ _ _ _ _ _ _ rfl rfl N2.out ?_; intro w9 hNF hUF; have NF := zZ hNF; have UF := zZ hUF; clear hNF hUF) | (go_at_call 61; (with_reducible refine (NM.out W0).mono ?_); rintro e w1 ⟨rfl, b1⟩; have G1 := HG.out.below b1; have N1 := zZ (NR.out.below b1); have B1 := zZ b1; have x1 : w1.cell? ⟨w.heap.size, 1, none⟩ = some (.slice a1 n1 c1) := G1.cell rfl; have x2 : w1.cell? ⟨w.heap.size, 2, none⟩ = some (.slice a2 n2 c2) := G1.cell rfl; have x3 : w1.cell? ⟨w.heap.size, 3, none⟩ = some (.slice a3 n3 c3) := G1.cell rfl; have x4 : w1.cell? ⟨w.heap.size, 4, none⟩ = some (.slice a4 n4 c4) := G1.cell rfl; clear G1 b1 y0) | (go_at_call 62; (with_reducible refine (uA 3 16 w1).mono ?_); rintro e w2 ⟨rfl, b2⟩; have B2 := zZ b2; have N2 := zZ (N1.out.below b2); clear b2))
  have z0 : w9.cell? ⟨w.heap.size + 1, 0, none⟩ = some (.int .i64 81) := NF.out.cell rfl
  have z1 : w9.cell? ⟨w.heap.size + 1, 1, none⟩ = some (.int .u8 3) := NF.out.cell rfl
  have z2 : w9.cell? ⟨w.heap.size + 1, 2, none⟩ = some (.int .i64 16) := NF.out.cell rfl
  have z3 : w9.cell? ⟨w.heap.size + 1, 3, none⟩ = some (.int .u8 0) := NF.out.cell rfl
  refine bodyPost_ret (v := .agg #[.int .i64 81, .int .u8 3, .int .i64 16, .int .u8 0]) (by simp [results, Try.results37, go_sem, z0, z1, z2, z3]) rfl ?_
  have p1 := BA.out.trans (B1.out.mono BA.out.size)
  have p2 := p1.trans (B2.out.mono p1.size)
  exact ⟨by rw [HD.out, if_neg (by simp), if_neg k0, if_neg k1, if_neg k2, if_pos k3]; rfl, p2.trans (UF.out.below (Nat.le_succ _) p2.size)⟩
 have i3 : ¬ (16 : Int) < (n3 : Int) := by omega
 by_cases k4 : 16 < n4
 ·have i4 : (16 : Int) < (n4 : Int) := by omega
  go_enter Try.func37, Try.ntmps37
  go_upto_region 1 with fail
  generalize (w.alloc (.cells #[.string (zW g.name), .slice a1 n1 c1, .slice a2 n2 c2, .slice a3 n3 c3, .slice a4 n4 c4] 31)).alloc (.cells #[.int .i64 0, .int .u8 0, .int .i64 0, .int .u8 0] 52) = W0 at *
  go_wp2_with (first | (refine zQ _ rfl (.tmp 2) (.tmp 38) rfl rfl (w.heap.size + 1) _ _ _ _ _ _ _ _ rfl rfl N2.out ?_; intro w9 hNF hUF; have NF := zZ hNF; have UF := zZ hUF; clear hNF hUF) | (go_at_call 61; (with_reducible refine (NM.out W0).mono ?_); rintro e w1 ⟨rfl, b1⟩; have G1 := HG.out.below b1; have N1 := zZ (NR.out.below b1); have B1 := zZ b1; have x1 : w1.cell? ⟨w.heap.size, 1, none⟩ = some (.slice a1 n1 c1) := G1.cell rfl; have x2 : w1.cell? ⟨w.heap.size, 2, none⟩ = some (.slice a2 n2 c2) := G1.cell rfl; have x3 : w1.cell? ⟨w.heap.size, 3, none⟩ = some (.slice a3 n3 c3) := G1.cell rfl; have x4 : w1.cell? ⟨w.heap.size, 4, none⟩ = some (.slice a4 n4 c4) := G1.cell rfl; clear G1 b1 y0) | (go_at_call 62; (with_reducible refine (uA 4 16 w1).mono ?_); rintro e w2 ⟨rfl, b2⟩; have B2 := zZ b2; have N2 := zZ (N1.out.below b2); clear b2))
  have z0 : w9.cell? ⟨w.heap.size + 1, 0, none⟩ = some (.int .i64 81) := NF.out.cell rfl
  have z1 : w9.cell? ⟨w.heap.size + 1, 1, none⟩ = some (.int .u8 4) := NF.out.cell rfl
  have z2 : w9.cell? ⟨w.heap.size + 1, 2, none⟩ = some (.int .i64 16) := NF.out.cell rfl
  have z3 : w9.cell? ⟨w.heap.size + 1, 3, none⟩ = some (.int .u8 0) := NF.out.cell rfl
  refine bodyPost_ret (v := .agg #[.int .i64 81, .int .u8 4, .int .i64 16, .int .u8 0]) (by simp [results, Try.results37, go_sem, z0, z1, z2, z3]) rfl ?_
  have p1 := BA.out.trans (B1.out.mono BA.out.size)
  have p2 := p1.trans (B2.out.mono p1.size)
  exact ⟨by rw [HD.out, if_neg (by simp), if_neg k0, if_neg k1, if_neg k2, if_neg k3, if_pos k4]; rfl, p2.trans (UF.out.below (Nat.le_succ _) p2.size)⟩
 have i4 : ¬ (16 : Int) < (n4 : Int) := by omega
 go_enter Try.func37, Try.ntmps37
 go_upto_region 1 with fail
 generalize (w.alloc (.cells #[.string (zW g.name), .slice a1 n1 c1, .slice a2 n2 c2, .slice a3 n3 c3, .slice a4 n4 c4] 31)).alloc (.cells #[.int .i64 0, .int .u8 0, .int .i64 0, .int .u8 0] 52) = W0 at *
 go_wp2_with (first | (refine zQ _ rfl (.tmp 2) (.tmp 39) rfl rfl (w.heap.size + 1) _ _ _ _ _ _ _ _ rfl rfl N1.out ?_; intro w9 hNF hUF; have NF := zZ hNF; have UF := zZ hUF; clear hNF hUF) | (go_at_call 61; (with_reducible refine (NM.out W0).mono ?_); rintro e w1 ⟨rfl, b1⟩; have G1 := HG.out.below b1; have N1 := zZ (NR.out.below b1); have B1 := zZ b1; have x1 : w1.cell? ⟨w.heap.size, 1, none⟩ = some (.slice a1 n1 c1) := G1.cell rfl; have x2 : w1.cell? ⟨w.heap.size, 2, none⟩ = some (.slice a2 n2 c2) := G1.cell rfl; have x3 : w1.cell? ⟨w.heap.size, 3, none⟩ = some (.slice a3 n3 c3) := G1.cell rfl; have x4 : w1.cell? ⟨w.heap.size, 4, none⟩ = some (.slice a4 n4 c4) := G1.cell rfl; clear G1 b1 y0))
 have z0 : w9.cell? ⟨w.heap.size + 1, 0, none⟩ = some (.int .i64 0) := NF.out.cell rfl
 have z1 : w9.cell? ⟨w.heap.size + 1, 1, none⟩ = some (.int .u8 0) := NF.out.cell rfl
 have z2 : w9.cell? ⟨w.heap.size + 1, 2, none⟩ = some (.int .i64 0) := NF.out.cell rfl
 have z3 : w9.cell? ⟨w.heap.size + 1, 3, none⟩ = some (.int .u8 0) := NF.out.cell rfl
 refine bodyPost_ret (v := .agg #[.int .i64 0, .int .u8 0, .int .i64 0, .int .u8 0]) (by simp [results, Try.results37, go_sem, z0, z1, z2, z3]) rfl ?_
 have p1 := BA.out.trans (B1.out.mono BA.out.size)
 exact ⟨by rw [HD.out, if_neg (by simp), if_neg k0, if_neg k1, if_neg k2, if_neg k3, if_neg k4]; rfl, p1.trans (UF.out.below (Nat.le_succ _) p1.size)⟩
def vH (R : List (List Bool)) : Prop := ∀ j, (xV R j).length <= 1024
theorem hZ {R : List (List Bool)} {n : Nat} (h : vH R) (hn : n <= 1024) : vH (R ++ [List.replicate n false]) := fun j => by
 by_cases h1 : j < R.length
 ·rw [uT h1]; exact h j
 by_cases h2 : j = R.length
 ·subst h2; rw [tP, List.length_replicate]; exact hn
 unfold xV
 rw [List.getD_eq_getElem?_getD, List.getElem?_eq_none (by simp; omega)]
 exact Nat.zero_le _
theorem cG {s : LS} {t : Nat} {zs : List Int} (h : (xR s t zs).1 = 0) (hI : vH s.I) (hO : vH s.O) : (xR s t zs).2.ns = s.ns /\ (xR s t zs).2.I.length = s.I.length + 1 /\ (xR s t zs).2.O.length = s.O.length + 1 /\ vH (xR s t zs).2.I /\ vH (xR s t zs).2.O := by
 have hs := vD t zs
 unfold xR at h ⊢
 by_cases h0 : (sE t zs).2.2 = 0
 ·rw [if_pos h0]
  exact ⟨rfl, by simp, by simp, hZ hI hs.1, hZ hO hs.2⟩
 rw [if_neg h0] at h
 exact absurd h h0
theorem oA : ∀ (As : List GA) (i : Nat) (s : LS), vH s.I -> vH s.O -> (xO As i s).1.code = 0 -> (xO As i s).2.I.length = s.I.length + As.length /\ (xO As i s).2.O.length = s.O.length + As.length /\ vH (xO As i s).2.I /\ vH (xO As i s).2.O /\ (xO As i s).2.ns.length <= s.ns.length + As.length
 | [], i, s, hI, hO, _ => ⟨rfl, rfl, hI, hO, Nat.le_refl _⟩
 | a :: r, i, s, hI, hO, h => by
  have e : xO (a :: r) i s = if (zL s.ns a.name).1 = 0 then (if (xR ⟨(zL s.ns a.name).2, s.I, s.O⟩ a.tag a.params).1 = 0 then xO r (i + 1) (xR ⟨(zL s.ns a.name).2, s.I, s.O⟩ a.tag a.params).2 else (⟨(xR ⟨(zL s.ns a.name).2, s.I, s.O⟩ a.tag a.params).1, 1, i, 0⟩, s)) else (⟨(zL s.ns a.name).1, 1, i, 0⟩, s) := rfl
  rw [e] at h ⊢
  by_cases h1 : (zL s.ns a.name).1 = 0
  ·rw [if_pos h1] at h ⊢
   by_cases h2 : (xR ⟨(zL s.ns a.name).2, s.I, s.O⟩ a.tag a.params).1 = 0
   ·rw [if_pos h2] at h ⊢
    have g := cG (s := ⟨(zL s.ns a.name).2, s.I, s.O⟩) h2 hI hO
    have q := oA r (i + 1) _ g.2.2.2.1 g.2.2.2.2 h
    have l := tN s.ns a.name
    have g1 : (xR ⟨(zL s.ns a.name).2, s.I, s.O⟩ a.tag a.params).2.ns = (zL s.ns a.name).2 := g.1
    have g2 : (xR ⟨(zL s.ns a.name).2, s.I, s.O⟩ a.tag a.params).2.I.length = s.I.length + 1 := g.2.1
    have g3 : (xR ⟨(zL s.ns a.name).2, s.I, s.O⟩ a.tag a.params).2.O.length = s.O.length + 1 := g.2.2.1
    rw [g1, g2, g3] at q
    rw [List.length_cons]
    exact ⟨by omega, by omega, q.2.2.1, q.2.2.2.1, by omega⟩
   rw [if_neg h2] at h
   exact absurd h h2
  rw [if_neg h1] at h
  exact absurd h h1
theorem vC (R : List (List Bool)) (a p : Int) : (yK R a p).length = R.length := by
 unfold yK; split
 ·exact vE _ _ _
 rfl
theorem mI : ∀ (Es : List GE) (i : Nat) (s : LS), yQ s.I -> yQ s.O -> (wY Es i s).2.I.length = s.I.length /\ (wY Es i s).2.O.length = s.O.length /\ yQ (wY Es i s).2.I /\ yQ (wY Es i s).2.O /\ (wY Es i s).2.ns = s.ns
 | [], i, s, hI, hO => ⟨rfl, rfl, hI, hO, rfl⟩
 | e :: r, i, s, hI, hO => by
  have u : wY (e :: r) i s = if zE s.O e.f e.fp = 0 then (if zE s.I e.t e.tp = 0 then (if 256 < e.start.length then (⟨88, 2, i, 0⟩, s) else wY r (i + 1) ⟨s.ns, yK s.I e.t e.tp, yK s.O e.f e.fp⟩) else (⟨zE s.I e.t e.tp, 2, i, 2⟩, s)) else (⟨zE s.O e.f e.fp, 2, i, 1⟩, s) := rfl
  rw [u]
  by_cases h1 : zE s.O e.f e.fp = 0
  ·rw [if_pos h1]
   by_cases h2 : zE s.I e.t e.tp = 0
   ·rw [if_pos h2]
    by_cases h3 : 256 < e.start.length
    ·rw [if_pos h3]; exact ⟨rfl, rfl, hI, hO, rfl⟩
    rw [if_neg h3]
    have q := mI r (i + 1) ⟨s.ns, yK s.I e.t e.tp, yK s.O e.f e.fp⟩ (wU hI _ _) (wU hO _ _)
    exact ⟨q.1.trans (vC _ _ _), q.2.1.trans (vC _ _ _), q.2.2.1, q.2.2.2.1, q.2.2.2.2⟩
   rw [if_neg h2]; exact ⟨rfl, rfl, hI, hO, rfl⟩
  rw [if_neg h1]; exact ⟨rfl, rfl, hI, hO, rfl⟩
theorem hY : ∀ (Ps : List GP) (i : Nat) (s : LS), yQ s.I -> yQ s.O -> (sU Ps i s).2.I.length = s.I.length /\ (sU Ps i s).2.O.length = s.O.length /\ yQ (sU Ps i s).2.I /\ yQ (sU Ps i s).2.O /\ (sU Ps i s).2.ns.length <= s.ns.length + Ps.length
 | [], i, s, hI, hO => ⟨rfl, rfl, hI, hO, Nat.le_refl _⟩
 | p :: r, i, s, hI, hO => by
  have u : sU (p :: r) i s = if (zL s.ns p.name).1 = 0 then (if zE s.I p.actor p.port = 0 then sU r (i + 1) ⟨(zL s.ns p.name).2, yK s.I p.actor p.port, s.O⟩ else (⟨zE s.I p.actor p.port, 3, i, 2⟩, s)) else (⟨(zL s.ns p.name).1, 3, i, 0⟩, s) := rfl
  rw [u]
  by_cases h1 : (zL s.ns p.name).1 = 0
  ·rw [if_pos h1]
   by_cases h2 : zE s.I p.actor p.port = 0
   ·rw [if_pos h2]
    have q := hY r (i + 1) ⟨(zL s.ns p.name).2, yK s.I p.actor p.port, s.O⟩ (wU hI _ _) hO
    have l := tN s.ns p.name
    have q5 : (sU r (i + 1) ⟨(zL s.ns p.name).2, yK s.I p.actor p.port, s.O⟩).2.ns.length <= (zL s.ns p.name).2.length + r.length := q.2.2.2.2
    exact ⟨q.1.trans (vC _ _ _), q.2.1, q.2.2.1, q.2.2.2.1, by rw [List.length_cons]; omega⟩
   rw [if_neg h2]; exact ⟨rfl, rfl, hI, hO, Nat.le_add_right _ _⟩
  rw [if_neg h1]; exact ⟨rfl, rfl, hI, hO, Nat.le_add_right _ _⟩
theorem kJ : ∀ (Ps : List GP) (i : Nat) (s : LS), yQ s.I -> yQ s.O -> (vF Ps i s).2.I.length = s.I.length /\ (vF Ps i s).2.O.length = s.O.length /\ yQ (vF Ps i s).2.I /\ yQ (vF Ps i s).2.O
 | [], i, s, hI, hO => ⟨rfl, rfl, hI, hO⟩
 | p :: r, i, s, hI, hO => by
  have u : vF (p :: r) i s = if (zL s.ns p.name).1 = 0 then (if zE s.O p.actor p.port = 0 then vF r (i + 1) ⟨(zL s.ns p.name).2, s.I, yK s.O p.actor p.port⟩ else (⟨zE s.O p.actor p.port, 4, i, 1⟩, s)) else (⟨(zL s.ns p.name).1, 4, i, 0⟩, s) := rfl
  rw [u]
  by_cases h1 : (zL s.ns p.name).1 = 0
  ·rw [if_pos h1]
   by_cases h2 : zE s.O p.actor p.port = 0
   ·rw [if_pos h2]
    have q := kJ r (i + 1) ⟨(zL s.ns p.name).2, s.I, yK s.O p.actor p.port⟩ hI (wU hO _ _)
    exact ⟨q.1, q.2.1.trans (vC _ _ _), q.2.2.1, q.2.2.2⟩
   rw [if_neg h2]; exact ⟨rfl, rfl, hI, hO⟩
  rw [if_neg h1]; exact ⟨rfl, rfl, hI, hO⟩
end Go.Proofs.Ytgoconkleicmkaa
