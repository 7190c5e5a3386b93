/- Texts of one chain. -/
import Derived.Test.YtgoconkleicmkaaPartQ
import Derived.Test.YtgoconkleicmkaaPartGraphBuilds27
import Derived.Maps.OwnSet
set_option maxRecDepth 100000
set_option maxHeartbeats 16000000
namespace Go.Proofs.Ytgoconkleicmkaa
open Go.ChangeShapes Go.WideShapes Go.ChangeAt Go.RowKit
def tW (w : World) (m : Nat) (ns : List (List UInt8)) : Prop :=
 ∃ (n : Nat) (D : DataW Unit), w.ownsMap Try.prog 9 (plainElem Try.prog 3) m n D /\ n <= ns.length /\ Maps.IsMap D /\ ∀ l : List UInt8, Maps.has D (.string l) = decide (l ∈ ns) /\ (l ∈ ns -> D.atKey (.string l) (.lit (.int .i64 0)) = .lit (.int .i64 (xN ns l)))
theorem cB (w : World) : tW (w.alloc (.map #[] 0)) w.heap.size [] := ⟨0, .map [], World.ownsMap_made _ _ _ _, Nat.le_refl _, ⟨_, rfl⟩, fun l => ⟨by simp [Maps.has], fun h => absurd h (by simp)⟩⟩
theorem tW.lt {w : World} {m : Nat} {ns : List (List UInt8)} (h : tW w m ns) : m < w.heap.size := by
 obtain ⟨n, D, h1, -⟩ := h
 exact h1.lt
theorem tW.keep {w w' : World} {m : Nat} {ns : List (List UInt8)} (h : tW w m ns) (hb : w'.heap[m]? = w.heap[m]?) : tW w' m ns := by
 obtain ⟨n, D, ⟨es, clock, h1, h2⟩, h3⟩ := h
 exact ⟨n, D, ⟨es, clock, hb.trans h1, h2⟩, h3⟩
theorem tW.below {w w' : World} {m : Nat} {ns : List (List UInt8)} (h : tW w m ns) (hb : Below w.heap.size w w') : tW w' m ns := h.keep (hb.block m h.lt)
theorem cA {D : DataW Unit} {ns : List (List UInt8)} (hD : Maps.IsMap D) (h : ∀ l : List UInt8, Maps.has D (.string l) = decide (l ∈ ns) /\ (l ∈ ns -> D.atKey (.string l) (.lit (.int .i64 0)) = .lit (.int .i64 (xN ns l)))) (s l : List UInt8) :
 Maps.has (D.put (.string s) (.lit (.int .i64 (ns.length : Int)))) (.string l) = decide (l ∈ ns ++ [s]) /\ (l ∈ ns ++ [s] -> (D.put (.string s) (.lit (.int .i64 (ns.length : Int)))).atKey (.string l) (.lit (.int .i64 0)) = .lit (.int .i64 (xN (ns ++ [s]) l))) := by
 by_cases e : l = s
 ·subst e
  rw [Maps.has_put_same hD (by trivial), Maps.atKey_put_same hD (by trivial), gU, if_pos rfl]
  exact ⟨by simp, fun _ => rfl⟩
 rw [Maps.has_put_other (by simpa using e), Maps.atKey_put_other (by simpa using e), gU, if_neg (Ne.symm e), (h l).1]
 exact ⟨by simp [e], fun q => (h l).2 (by simpa [e] using q)⟩
theorem jD (w : World) (m : Nat) (ns : List (List UInt8)) (l : List UInt8) (h : tW w m ns) (hl : l.length <= 140737488355328) :
 Calls Try.prog 36 #[.map (some m), .string (zW l)] w fun e w' => e = .returned (.int .i64 (xN ns l)) /\ Below w.heap.size w w' := by
 obtain ⟨n, D, h1, -, -, h4⟩ := h
 have hk9 := WideMaps.keyOf_string_mk (P := Try.prog) (k := 9) (s := zW l) Try.underlying9 (by rw [wH]; unfold maxLen; omega)
 have e9 : (zW l).data.toList = l := by simp [zW]
 rw [e9] at hk9
 have HK9 := zZ hk9
 have HO := zZ h1
 have HH := zZ (h4 l)
 clear h1 h4 hk9 e9
 by_cases hm : l ∈ ns
 ·have e1 : Maps.has D (.string l) = true := by rw [HH.out.1]; exact decide_eq_true hm
  have e2 := HH.out.2 hm
  have E2 := zZ e2
  clear HH hm e2
  go_enter Try.func36, Try.ntmps36
  go_wp2_with (at_lookup; refine wpList_lookup_own_ok_int _ rfl _ _ 77 rfl 9 3 .i64 oQ Try.underlying77 Try.underlying3 (aE _) m n D rfl HO.out _ (.string l) rfl HK9.out ?_; intro c hat _; have hc : c = xN ns l := (by have q := hat.symm.trans E2.out; exact (Lit.int.inj (DataW.lit.inj q)).2); subst hc; clear hat)
  go_ret
  exact ⟨rfl, Below.refl _ _⟩
 have e1 : Maps.has D (.string l) = false := by rw [HH.out.1]; exact decide_eq_false hm
 rw [cE hm]
 clear HH hm
 go_enter Try.func36, Try.ntmps36
 go_wp2_with (at_lookup; refine wpList_lookup_own_ok_int _ rfl _ _ 77 rfl 9 3 .i64 oQ Try.underlying77 Try.underlying3 (aE _) m n D rfl HO.out _ (.string l) rfl HK9.out ?_; intro c hat _; clear hat)
 go_ret
 exact ⟨rfl, Below.refl _ _⟩
theorem oK {L : List (yO × Value)} {k : Nat} (h : k < L.length) : (L.map Prod.fst).take (k + 1) = (L.map Prod.fst).take k ++ [(yV L k).1] := by
 rw [<- List.map_take, <- List.map_take]
 exact kE h
theorem ZI (L : List yO) (x : yO) : xF (L ++ [x]) = if x.kind = 1 then xF L ++ [x.name] else xF L := by
 unfold xF
 rw [zK]
 by_cases h : x.kind = 1
 ·rw [if_pos h, if_pos h, List.map_append]; rfl
 rw [if_neg h, if_neg h]
theorem gR (a : Option Addr) (n c : Nat) (L : List (yO × Value)) (w : World) (hn : L.length = n) (h : nS w a L) (hl : n <= 4000000) (hs : ∀ p ∈ L, p.1.name.length <= 140737488355328) :
 Calls Try.prog 34 #[.slice a n c] w fun e w' => ∃ m, e = .returned (.map (some m)) /\ tW w' m (xF (L.map Prod.fst)) /\ w.heap.size <= m /\ Below w.heap.size w w' := by
 have HR := zZ h
 have HL := zZ hn
 have HS := zZ hs
 have hnI : (n : Int) <= 4000000 := by omega
 have hmm := @run_makeMap Try.prog
 have K0 := zZ (cB w)
 have B0 := zZ ((Below.refl w.heap.size w).alloc (Nat.le_refl _) (.map #[] 0))
 clear h hn hs
 go_enter Try.func34, Try.ntmps34
 go_wp2
 go_loopg [4, 10] n (fun gk nv v wr => ∃ k : Nat, k <= n /\ gk = n - k /\ v = .int .i64 (k : Int) /\ nv = .int .i64 ((xF ((L.map Prod.fst).take k)).length : Int) /\ tW wr w.heap.size (xF ((L.map Prod.fst).take k)) /\ Below w.heap.size w wr)
 case atStart => exact ⟨0, Nat.zero_le _, rfl, rfl, rfl, K0.out, B0.out⟩
 case round =>
  clear K0 B0
  obtain ⟨k, hk, rfl, rfl, rfl, hK, hB⟩ := hrel
  have HK := zZ hK
  have HB := zZ hB
  have hlen : (xF ((L.map Prod.fst).take k)).length <= n := by
   unfold xF
   rw [List.length_map]
   have h1 := uQ 1 ((L.map Prod.fst).take k)
   rw [List.length_take] at h1
   omega
  have hlenI : ((xF ((L.map Prod.fst).take k)).length : Int) <= 4000000 := by omega
  clear hK hB
  by_cases hlt : k < n
  ·have hki : (k : Int) < (n : Int) := by omega
   have hr := HR.out.below HB.out
   rcases hr.lie with e | ⟨g, off, rfl, hc⟩
   ·have := HL.out; rw [e] at this; simp at this; omega
   obtain ⟨c0, c1, c2, c3, c4, c5, c6, c7, c8, c9, c10⟩ := hc k (by have := HL.out; omega)
   have hmem := yJ (L := L) (k := k) (by have := HL.out; omega)
   obtain ⟨qa, qn, qc, hq⟩ := (hr.nums _ hmem).slc
   rw [hq] at c3
   have hnm := HS.out _ hmem
   have HT : Hid (xF ((L.map Prod.fst).take (k + 1)) = if (yV L k).1.kind = 1 then xF ((L.map Prod.fst).take k) ++ [(yV L k).1.name] else xF ((L.map Prod.fst).take k)) := by
    show _ = _
    rw [oK (by have := HL.out; omega), ZI]
   generalize (yV L k).1 = x at *
   obtain ⟨ki, xn, xt, ns, ⟨fn, fp, fa⟩, ⟨tn, tp, ta⟩, pl⟩ := x
   simp only at c0 c1 c2 c3 c4 c5 c6 c7 c8 c9 c10 hnm HT
   have bv := (Below.refl wr.heap.size wr).alloc (Nat.le_refl _) (.cells #[.int .u8 ki, .string (zW xn), .string (zW xt), .slice qa qn qc, .string (zW fn), .int .i64 fp, .int .i64 fa, .string (zW tn), .int .i64 tp, .int .i64 ta, .int .i64 pl] 45)
   have BV := zZ (HB.out.trans (bv.mono HB.out.size))
   have KV := zZ (HK.out.below bv)
   generalize xF ((L.map Prod.fst).take k) = P at *
   clear hc hr hq bv hmem
   by_cases h1 : ki = 1
   ·subst h1
    rw [if_pos rfl] at HT
    obtain ⟨kn, D, k1, k2, k3, k4⟩ := KV.out
    have KO := zZ k1
    have hk9 := WideMaps.keyOf_string_mk (P := Try.prog) (k := 9) (s := zW xn) Try.underlying9 (by rw [wH]; unfold maxLen; omega)
    have e9 : (zW xn).data.toList = xn := by simp [zW]
    rw [e9] at hk9
    have HK9 := zZ hk9
    have hw1 : (Lit.int .i64 (P.length : Int)).wf = true := by
     show (decide ((-9223372036854775808 : Int) <= (P.length : Int)) && decide ((P.length : Int) <= 9223372036854775807)) = true
     rw [decide_eq_true (by omega), decide_eq_true (by omega)]
     rfl
    have HPE := zZ (plainElem_int (H := Unit) (P := Try.prog) (e := 3) Try.underlying3 hw1)
    have HKP : Hid (∀ w2, w2.ownsMap Try.prog 9 (plainElem Try.prog 3) w.heap.size (kn + 1) (D.put (.string xn) (.lit (.int .i64 (P.length : Int)))) -> tW w2 w.heap.size (P ++ [xn])) := fun w2 q => ⟨kn + 1, _, q, by simp; omega, k3.put _ _, fun l => cA k3 k4 xn l⟩
    have hn9 : kn < maxLen := by unfold maxLen; omega
    clear k1 k2 k3 k4 hk9 e9 hw1
    go_wp2_with (at_mapUpdate; refine wpList_mapUpdate_own _ rfl _ _ _ 77 rfl 9 3 oQ Try.underlying77 _ w.heap.size kn D rfl KO.out hn9 _ _ (.string xn) rfl rfl HK9.out _ [] HPE.out ?_; intro w2 hown2 hgrow2; have K2 := zZ (HKP.out w2 hown2); have B2 := zZ (pN BV.out hgrow2 (Nat.le_refl _) BV.out.size); clear hown2 hgrow2)
    go_roundg (n - (k + 1))
    case measure => omega
    case rel => exact ⟨k + 1, by omega, rfl, by go_num, by rw [HT.out, List.length_append]; go_num, by rw [HT.out]; exact K2.out, B2.out⟩
   rw [if_neg h1] at HT
   have e1 : (ki == 1) = false := by simpa using h1
   go_wp2
   go_roundg (n - (k + 1))
   case measure => omega
   case rel => exact ⟨k + 1, by omega, rfl, by go_num, by rw [HT.out], by rw [HT.out]; exact KV.out, BV.out⟩
  have hki : ¬ (k : Int) < (n : Int) := by omega
  go_wp2
  go_ret
  refine ⟨w.heap.size, rfl, ?_, Nat.le_refl _, HB.out⟩
  have := HK.out
  rw [List.take_of_length_le (by rw [List.length_map, HL.out]; omega)] at this
  exact this
def aP (p : GA × Value) : List Value := [.string (zW p.1.name), .int .u8 (p.1.tag : Int), p.2]
def eP (p : GE × Value) : List Value := [.int .i64 p.1.f, .int .i64 p.1.fp, .int .i64 p.1.t, .int .i64 p.1.tp, p.2]
def pP (p : GP) : List Value := [.string (zW p.name), .int .i64 p.actor, .int .i64 p.port]
theorem Try.infoA : (Try.prog.info? 61).map (fun i => (i.zero, i.size, i.bytes)) = some (some (.agg #[.string ⟨#[]⟩, .int .u8 0, .slice none 0 0]), 3, 48) := by kernel_rfl
theorem Try.infoE : (Try.prog.info? 64).map (fun i => (i.zero, i.size, i.bytes)) = some (some (.agg #[.int .i64 0, .int .i64 0, .int .i64 0, .int .i64 0, .slice none 0 0]), 5, 56) := by kernel_rfl
theorem Try.infoP : (Try.prog.info? 83).map (fun i => (i.zero, i.size, i.bytes)) = some (some (.agg #[.string ⟨#[]⟩, .int .i64 0, .int .i64 0]), 3, 32) := by kernel_rfl
theorem dJ {α : Type} (f : α -> List Value) (c : Nat) (hc : ∀ x, (f x).length = c) : ∀ (L : List α) (k r : Nat) (h : k < L.length), r < c -> (L.flatMap f)[k * c + r]? = (f L[k])[r]?
 | [], k, r, h, _ => by simp at h
 | t :: L, 0, r, _, hr => by
  rw [List.flatMap_cons, List.getElem?_append_left (by rw [hc]; omega), Nat.zero_mul, Nat.zero_add]
  rfl
 | t :: L, k + 1, r, h, hr => by
  have e0 : (k + 1) * c = k * c + c := Nat.succ_mul k c
  rw [List.flatMap_cons, List.getElem?_append_right (by rw [hc]; omega)]
  have e : (k + 1) * c + r - (f t).length = k * c + r := by rw [hc]; omega
  rw [e, dJ f c hc L k r (by simp at h; omega) hr]
  rfl
theorem xY {α : Type} {f : α -> List Value} {c : Nat} (hc : ∀ x, (f x).length = c) {B : Nat} {w : World} {T : TypeId} {g n cp : Nat} {L : List α} (h : w.ownsRow B T c (.slice (some ⟨g, 0, none⟩) n cp) L.length (L.flatMap f)) {k r : Nat} (hk : k < L.length) (hr : r < c) {u : Value} (hu : (f L[k])[r]? = some u) : w.cell? ⟨g, k * c + r, none⟩ = some u := by
 have h1 := World.ownsRow.cells h (g := g) rfl (k * c + r) u (by rw [dJ f c hc L k r hk hr]; exact hu)
 rw [xC] at h1
 exact h1
def NB (a b : Value) : Prop := ∀ k, a.ownBlock = some k -> b.ownBlock ≠ some k
theorem NB.symm {a b : Value} (h : NB a b) : NB b a := fun k h1 h2 => h k h2 h1
theorem NB.nilL (b : Value) : NB (.slice none 0 0) b := fun k h => by cases h
theorem zC {w : World} {B T c n : Nat} {v : Value} {xs : List Value} (h : w.ownsRow B T c v n xs) : ∃ a cp, v = .slice a n cp := by
 rcases h.2 with ⟨rfl, h0⟩ | ⟨g, cap, cur, rfl, -⟩
 ·exact ⟨none, 0, by rw [h0]⟩
 exact ⟨_, _, rfl⟩
theorem tJ {w : World} {B T c n : Nat} {a : Option Addr} {m cp : Nat} {xs : List Value} (h : w.ownsRow B T c (.slice a m cp) n xs) (hn : 0 < n) : ∃ g, a = some ⟨g, 0, none⟩ /\ B <= g /\ g < w.heap.size := by
 rcases h.2 with ⟨e, h0⟩ | ⟨g, cap, cur, e, hg, hh, -⟩
 ·omega
 cases e
 exact ⟨g, rfl, hg, (Array.getElem?_eq_some_iff.1 hh).1⟩
theorem NB.told {v v' u : Value} {n : Nat} {w2 w4 : World} (h : NB v u) (hu : ∀ k, u.ownBlock = some k -> k < w2.heap.size) (ht : (∃ g cap, v = .slice (some ⟨g, 0, none⟩) n cap /\ v' = .slice (some ⟨g, 0, none⟩) (n + 1) cap /\ w2.grownBy w4 (some g)) \/ (∃ cap, v' = .slice (some ⟨w2.heap.size, 0, none⟩) (n + 1) cap /\ w2.grownBy w4 none)) : NB v' u := by
 intro k hk hk2
 rcases ht with ⟨g, cap, rfl, rfl, -⟩ | ⟨cap, rfl, -⟩
 ·cases hk
  exact h g rfl hk2
 cases hk
 exact absurd (hu _ hk2) (Nat.lt_irrefl _)
theorem xU {v v' : Value} {n : Nat} {w2 w4 : World} (ht : (∃ g cap, v = .slice (some ⟨g, 0, none⟩) n cap /\ v' = .slice (some ⟨g, 0, none⟩) (n + 1) cap /\ w2.grownBy w4 (some g)) \/ (∃ cap, v' = .slice (some ⟨w2.heap.size, 0, none⟩) (n + 1) cap /\ w2.grownBy w4 none)) : w2.heap.size <= w4.heap.size /\ ∀ k, k < w2.heap.size -> v.ownBlock ≠ some k -> w4.heap[k]? = w2.heap[k]? := by
 rcases ht with ⟨g, cap, rfl, rfl, hg⟩ | ⟨cap, rfl, hg⟩
 ·exact ⟨hg.size, fun k hk hn => hg.block k hk (fun e => hn e.symm)⟩
 exact ⟨hg.size, fun k hk _ => hg.block k hk (fun e => by cases e)⟩
theorem xZ {v v' : Value} {n : Nat} {w2 w4 : World} (ht : (∃ g cap, v = .slice (some ⟨g, 0, none⟩) n cap /\ v' = .slice (some ⟨g, 0, none⟩) (n + 1) cap /\ w2.grownBy w4 (some g)) \/ (∃ cap, v' = .slice (some ⟨w2.heap.size, 0, none⟩) (n + 1) cap /\ w2.grownBy w4 none)) : ∃ row, w2.grownBy w4 row /\ ∀ k, row = some k -> v.ownBlock = some k := by
 rcases ht with ⟨g, cap, rfl, rfl, hg⟩ | ⟨cap, rfl, hg⟩
 ·exact ⟨_, hg, fun k e => e⟩
 exact ⟨_, hg, fun k e => by cases e⟩
theorem sA (x : GA × Value) : (aP x).length = 3 := rfl
theorem tQ (x : GE × Value) : (eP x).length = 5 := rfl
theorem lX (x : GP) : (pP x).length = 3 := rfl
theorem tI {As : List GA} {k : Nat} (h : k < As.length) : zI As k = As[k] := by
 unfold zI; rw [List.getD_eq_getElem?_getD, List.getElem?_eq_getElem h]; rfl
theorem tH {As : List GE} {k : Nat} (h : k < As.length) : yU As k = As[k] := by
 unfold yU; rw [List.getD_eq_getElem?_getD, List.getElem?_eq_getElem h]; rfl
theorem pH {As : List GP} {k : Nat} (h : k < As.length) : zF As k = As[k] := by
 unfold zF; rw [List.getD_eq_getElem?_getD, List.getElem?_eq_getElem h]; rfl
theorem nH {B : Nat} {w : World} {a : Option Addr} {n cp : Nat} {As : List (GA × Value)} (h : w.ownsRow B 61 3 (.slice a n cp) As.length (As.flatMap aP)) (hp : ∀ p ∈ As, p.1.tag <= 255 /\ ∃ x c, p.2 = .slice x p.1.params.length c /\ lJ w x p.1.params.length c p.1.params) : YG w a (As.map Prod.fst) := by
 by_cases h0 : As.length = 0
 ·exact .inl (by rw [List.eq_nil_of_length_eq_zero h0]; rfl)
 obtain ⟨g, rfl, -⟩ := tJ h (by omega)
 refine .inr ⟨g, 0, rfl, fun k hk => ?_⟩
 rw [List.length_map] at hk
 have e : zI (As.map Prod.fst) k = As[k].1 := by rw [tI (by rw [List.length_map]; exact hk), List.getElem_map]
 obtain ⟨h1, x, c, h2, h3⟩ := hp As[k] (List.getElem_mem hk)
 rw [e, Nat.zero_add]
 refine ⟨xY sA h hk (r := 0) (by decide) rfl, xY sA h hk (r := 1) (by decide) rfl, h1, x, c, xY sA h hk (r := 2) (by decide) ?_, h3⟩
 rw [<- h2]
 rfl
theorem nG {B : Nat} {w : World} {a : Option Addr} {n cp : Nat} {As : List (GE × Value)} (h : w.ownsRow B 64 5 (.slice a n cp) As.length (As.flatMap eP)) (hp : ∀ p ∈ As, ∃ x c, p.2 = .slice x p.1.start.length c /\ lJ w x p.1.start.length c p.1.start) : fA w a (As.map Prod.fst) := by
 by_cases h0 : As.length = 0
 ·exact .inl (by rw [List.eq_nil_of_length_eq_zero h0]; rfl)
 obtain ⟨g, rfl, -⟩ := tJ h (by omega)
 refine .inr ⟨g, 0, rfl, fun k hk => ?_⟩
 rw [List.length_map] at hk
 have e : yU (As.map Prod.fst) k = As[k].1 := by rw [tH (by rw [List.length_map]; exact hk), List.getElem_map]
 obtain ⟨x, c, h2, h3⟩ := hp As[k] (List.getElem_mem hk)
 rw [e, Nat.zero_add]
 refine ⟨xY tQ h hk (r := 0) (by decide) rfl, xY tQ h hk (r := 1) (by decide) rfl, xY tQ h hk (r := 2) (by decide) rfl, xY tQ h hk (r := 3) (by decide) rfl, x, c, xY tQ h hk (r := 4) (by decide) ?_, h3⟩
 rw [<- h2]
 rfl
theorem sR {B : Nat} {w : World} {a : Option Addr} {n cp : Nat} {As : List GP} (h : w.ownsRow B 83 3 (.slice a n cp) As.length (As.flatMap pP)) : tO w a As := by
 by_cases h0 : As.length = 0
 ·exact .inl (List.eq_nil_of_length_eq_zero h0)
 obtain ⟨g, rfl, -⟩ := tJ h (by omega)
 refine .inr ⟨g, 0, rfl, fun k hk => ?_⟩
 rw [pH hk, Nat.zero_add]
 exact ⟨xY lX h hk (r := 0) (by decide) rfl, xY lX h hk (r := 1) (by decide) rfl, xY lX h hk (r := 2) (by decide) rfl⟩
structure gQ (w : World) (m B : Nat) (sk : Array Value) (nm : List UInt8) (ns : List (List UInt8)) (v1 v2 v3 v4 : Value) (As : List (GA × Value)) (Es : List (GE × Value)) (Ps Os : List GP) (wr : World) : Prop where
 sb : zN 24 w.heap.size wr sk
 rb : zN 31 (w.heap.size + 1) wr #[.string ⟨#[]⟩, .slice none 0 0, .slice none 0 0, .slice none 0 0, .slice none 0 0]
 gb : zN 31 (w.heap.size + 2) wr #[.string (zW nm), v1, v2, v3, v4]
 kn : tW wr m ns
 r1 : wr.ownsRow B 61 3 v1 As.length (As.flatMap aP)
 r2 : wr.ownsRow B 64 5 v2 Es.length (Es.flatMap eP)
 r3 : wr.ownsRow B 83 3 v3 Ps.length (Ps.flatMap pP)
 r4 : wr.ownsRow B 83 3 v4 Os.length (Os.flatMap pP)
 n12 : NB v1 v2
 n13 : NB v1 v3
 n14 : NB v1 v4
 n23 : NB v2 v3
 n24 : NB v2 v4
 n34 : NB v3 v4
 bel : Below w.heap.size w wr
 hm : w.heap.size + 2 < m
 hB : m < B
 big : B <= wr.heap.size
theorem gQ.below {w m B sk nm ns v1 v2 v3 v4 As Es Ps Os} {wr w2 : World} (h : gQ w m B sk nm ns v1 v2 v3 v4 As Es Ps Os wr) (hb : Below wr.heap.size wr w2) : gQ w m B sk nm ns v1 v2 v3 v4 As Es Ps Os w2 :=
 ⟨h.sb.below hb, h.rb.below hb, h.gb.below hb, h.kn.below hb, zS h.r1 hb, zS h.r2 hb, zS h.r3 hb, zS h.r4 hb, h.n12, h.n13, h.n14, h.n23, h.n24, h.n34, h.bel.trans (hb.mono h.bel.size), h.hm, h.hB, Nat.le_trans h.big hb.size⟩
theorem vV (W : World) (T : TypeId) (cs : List Value) : ∀ j u, cs[j]? = some u -> (W.alloc (.cells cs.toArray T)).cell? ((⟨W.heap.size, 0, none⟩ : Addr).add j) = some u := by
 intro j u hu
 rw [xC]
 exact (zU T W cs.toArray).cell (by rw [List.getElem?_toArray]; exact hu)
theorem wD {α : Type} (f : α -> List Value) (L : List α) (x : α) : (L ++ [x]).flatMap f = L.flatMap f ++ f x := by simp [List.flatMap]
theorem gQ.put1 {w m B sk nm ns v1 v2 v3 v4 As Es Ps Os} {V : World} (h : gQ w m B sk nm ns v1 v2 v3 v4 As Es Ps Os V) {w2 w4 : World} {p : (GA × Value)} {v' : Value} (hb : Below V.heap.size V w2)
 (ho : w4.ownsRow B 61 3 v' (As.length + 1) (As.flatMap aP ++ aP p))
 (ht : (∃ g cap, v1 = .slice (some ⟨g, 0, none⟩) As.length cap /\ v' = .slice (some ⟨g, 0, none⟩) (As.length + 1) cap /\ w2.grownBy w4 (some g)) \/ (∃ cap, v' = .slice (some ⟨w2.heap.size, 0, none⟩) (As.length + 1) cap /\ w2.grownBy w4 none)) :
 gQ w m B sk nm ns v' v2 v3 v4 (As ++ [p]) Es Ps Os (w4.setCell ⟨w.heap.size + 2, 1, none⟩ v') /\ zN 31 (w.heap.size + 2) w4 #[.string (zW nm), v1, v2, v3, v4] := by
 have hbig := h.big
 have hm := h.hm
 have hB := h.hB
 have hsz := hb.size
 have tk := xU ht
 have kp : ∀ d, d < V.heap.size -> v1.ownBlock ≠ some d -> w4.heap[d]? = V.heap[d]? := fun d hd hn => (tk.2 d (by omega) hn).trans (hb.block d hd)
 have lowr : ∀ d, d < B -> v1.ownBlock ≠ some d := fun d hd e => by have := zT h.r1 d e; omega
 have b3 := h.gb.keep (kp (w.heap.size + 2) (by omega) (lowr _ (by omega)))
 have set : ∀ k, k ≠ w.heap.size + 2 -> (w4.setCell ⟨w.heap.size + 2, 1, none⟩ v').heap[k]? = w4.heap[k]? := fun k hk => Below.heap_setCell w4 ⟨w.heap.size + 2, 1, none⟩ v' k hk
 have rI : (w4.setCell ⟨w.heap.size + 2, 1, none⟩ v').ownsRow B 61 3 v' (As ++ [p]).length ((As ++ [p]).flatMap aP) := by
  rw [wD, List.length_append]
  exact zV ho fun k e => set k (by have := zT ho k e; omega)
 obtain ⟨row, hg, hrow⟩ := xZ ht
 refine ⟨⟨h.sb.keep ((set _ (by omega)).trans (kp _ (by omega) (lowr _ (by omega)))), h.rb.keep ((set _ (by omega)).trans (kp _ (by omega) (lowr _ (by omega)))), b3.set 1 v', h.kn.keep ((set _ (by omega)).trans (kp _ (by omega) (lowr _ (by omega)))), rI, (zV h.r2 fun k e => (set k (by have := zT h.r2 k e; omega)).trans (kp k (zR h.r2 k e) (fun q => h.n12 k q e))), (zV h.r3 fun k e => (set k (by have := zT h.r3 k e; omega)).trans (kp k (zR h.r3 k e) (fun q => h.n13 k q e))), (zV h.r4 fun k e => (set k (by have := zT h.r4 k e; omega)).trans (kp k (zR h.r4 k e) (fun q => h.n14 k q e))), (NB.told (h.n12) (fun k e => Nat.lt_of_lt_of_le (zR h.r2 k e) hsz) ht), (NB.told (h.n13) (fun k e => Nat.lt_of_lt_of_le (zR h.r3 k e) hsz) ht), (NB.told (h.n14) (fun k e => Nat.lt_of_lt_of_le (zR h.r4 k e) hsz) ht), h.n23, h.n24, h.n34, ?_, h.hm, h.hB, ?_⟩, b3⟩
 ·have h1 : Below w.heap.size w w2 := h.bel.trans (hb.mono h.bel.size)
  exact (zH h1 hg (fun k hk => by have := zT h.r1 k (hrow k hk); omega) h1.size).setCell (p := ⟨w.heap.size + 2, 1, none⟩) (by show w.heap.size <= w.heap.size + 2; omega) _
 have := tk.1
 rw [World.size_setCell]
 omega
theorem gQ.put2 {w m B sk nm ns v1 v2 v3 v4 As Es Ps Os} {V : World} (h : gQ w m B sk nm ns v1 v2 v3 v4 As Es Ps Os V) {w2 w4 : World} {p : (GE × Value)} {v' : Value} (hb : Below V.heap.size V w2)
 (ho : w4.ownsRow B 64 5 v' (Es.length + 1) (Es.flatMap eP ++ eP p))
 (ht : (∃ g cap, v2 = .slice (some ⟨g, 0, none⟩) Es.length cap /\ v' = .slice (some ⟨g, 0, none⟩) (Es.length + 1) cap /\ w2.grownBy w4 (some g)) \/ (∃ cap, v' = .slice (some ⟨w2.heap.size, 0, none⟩) (Es.length + 1) cap /\ w2.grownBy w4 none)) :
 gQ w m B sk nm ns v1 v' v3 v4 As (Es ++ [p]) Ps Os (w4.setCell ⟨w.heap.size + 2, 2, none⟩ v') /\ zN 31 (w.heap.size + 2) w4 #[.string (zW nm), v1, v2, v3, v4] := by
 have hbig := h.big
 have hm := h.hm
 have hB := h.hB
 have hsz := hb.size
 have tk := xU ht
 have kp : ∀ d, d < V.heap.size -> v2.ownBlock ≠ some d -> w4.heap[d]? = V.heap[d]? := fun d hd hn => (tk.2 d (by omega) hn).trans (hb.block d hd)
 have lowr : ∀ d, d < B -> v2.ownBlock ≠ some d := fun d hd e => by have := zT h.r2 d e; omega
 have b3 := h.gb.keep (kp (w.heap.size + 2) (by omega) (lowr _ (by omega)))
 have set : ∀ k, k ≠ w.heap.size + 2 -> (w4.setCell ⟨w.heap.size + 2, 2, none⟩ v').heap[k]? = w4.heap[k]? := fun k hk => Below.heap_setCell w4 ⟨w.heap.size + 2, 2, none⟩ v' k hk
 have rI : (w4.setCell ⟨w.heap.size + 2, 2, none⟩ v').ownsRow B 64 5 v' (Es ++ [p]).length ((Es ++ [p]).flatMap eP) := by
  rw [wD, List.length_append]
  exact zV ho fun k e => set k (by have := zT ho k e; omega)
 obtain ⟨row, hg, hrow⟩ := xZ ht
 refine ⟨⟨h.sb.keep ((set _ (by omega)).trans (kp _ (by omega) (lowr _ (by omega)))), h.rb.keep ((set _ (by omega)).trans (kp _ (by omega) (lowr _ (by omega)))), b3.set 2 v', h.kn.keep ((set _ (by omega)).trans (kp _ (by omega) (lowr _ (by omega)))), (zV h.r1 fun k e => (set k (by have := zT h.r1 k e; omega)).trans (kp k (zR h.r1 k e) (fun q => h.n12.symm k q e))), rI, (zV h.r3 fun k e => (set k (by have := zT h.r3 k e; omega)).trans (kp k (zR h.r3 k e) (fun q => h.n23 k q e))), (zV h.r4 fun k e => (set k (by have := zT h.r4 k e; omega)).trans (kp k (zR h.r4 k e) (fun q => h.n24 k q e))), (NB.told (h.n12.symm) (fun k e => Nat.lt_of_lt_of_le (zR h.r1 k e) hsz) ht).symm, h.n13, h.n14, (NB.told (h.n23) (fun k e => Nat.lt_of_lt_of_le (zR h.r3 k e) hsz) ht), (NB.told (h.n24) (fun k e => Nat.lt_of_lt_of_le (zR h.r4 k e) hsz) ht), h.n34, ?_, h.hm, h.hB, ?_⟩, b3⟩
 ·have h1 : Below w.heap.size w w2 := h.bel.trans (hb.mono h.bel.size)
  exact (zH h1 hg (fun k hk => by have := zT h.r2 k (hrow k hk); omega) h1.size).setCell (p := ⟨w.heap.size + 2, 2, none⟩) (by show w.heap.size <= w.heap.size + 2; omega) _
 have := tk.1
 rw [World.size_setCell]
 omega
theorem gQ.put3 {w m B sk nm ns v1 v2 v3 v4 As Es Ps Os} {V : World} (h : gQ w m B sk nm ns v1 v2 v3 v4 As Es Ps Os V) {w2 w4 : World} {p : GP} {v' : Value} (hb : Below V.heap.size V w2)
 (ho : w4.ownsRow B 83 3 v' (Ps.length + 1) (Ps.flatMap pP ++ pP p))
 (ht : (∃ g cap, v3 = .slice (some ⟨g, 0, none⟩) Ps.length cap /\ v' = .slice (some ⟨g, 0, none⟩) (Ps.length + 1) cap /\ w2.grownBy w4 (some g)) \/ (∃ cap, v' = .slice (some ⟨w2.heap.size, 0, none⟩) (Ps.length + 1) cap /\ w2.grownBy w4 none)) :
 gQ w m B sk nm ns v1 v2 v' v4 As Es (Ps ++ [p]) Os (w4.setCell ⟨w.heap.size + 2, 3, none⟩ v') /\ zN 31 (w.heap.size + 2) w4 #[.string (zW nm), v1, v2, v3, v4] := by
 have hbig := h.big
 have hm := h.hm
 have hB := h.hB
 have hsz := hb.size
 have tk := xU ht
 have kp : ∀ d, d < V.heap.size -> v3.ownBlock ≠ some d -> w4.heap[d]? = V.heap[d]? := fun d hd hn => (tk.2 d (by omega) hn).trans (hb.block d hd)
 have lowr : ∀ d, d < B -> v3.ownBlock ≠ some d := fun d hd e => by have := zT h.r3 d e; omega
 have b3 := h.gb.keep (kp (w.heap.size + 2) (by omega) (lowr _ (by omega)))
 have set : ∀ k, k ≠ w.heap.size + 2 -> (w4.setCell ⟨w.heap.size + 2, 3, none⟩ v').heap[k]? = w4.heap[k]? := fun k hk => Below.heap_setCell w4 ⟨w.heap.size + 2, 3, none⟩ v' k hk
 have rI : (w4.setCell ⟨w.heap.size + 2, 3, none⟩ v').ownsRow B 83 3 v' (Ps ++ [p]).length ((Ps ++ [p]).flatMap pP) := by
  rw [wD, List.length_append]
  exact zV ho fun k e => set k (by have := zT ho k e; omega)
 obtain ⟨row, hg, hrow⟩ := xZ ht
 refine ⟨⟨h.sb.keep ((set _ (by omega)).trans (kp _ (by omega) (lowr _ (by omega)))), h.rb.keep ((set _ (by omega)).trans (kp _ (by omega) (lowr _ (by omega)))), b3.set 3 v', h.kn.keep ((set _ (by omega)).trans (kp _ (by omega) (lowr _ (by omega)))), (zV h.r1 fun k e => (set k (by have := zT h.r1 k e; omega)).trans (kp k (zR h.r1 k e) (fun q => h.n13.symm k q e))), (zV h.r2 fun k e => (set k (by have := zT h.r2 k e; omega)).trans (kp k (zR h.r2 k e) (fun q => h.n23.symm k q e))), rI, (zV h.r4 fun k e => (set k (by have := zT h.r4 k e; omega)).trans (kp k (zR h.r4 k e) (fun q => h.n34 k q e))), h.n12, (NB.told (h.n13.symm) (fun k e => Nat.lt_of_lt_of_le (zR h.r1 k e) hsz) ht).symm, h.n14, (NB.told (h.n23.symm) (fun k e => Nat.lt_of_lt_of_le (zR h.r2 k e) hsz) ht).symm, h.n24, (NB.told (h.n34) (fun k e => Nat.lt_of_lt_of_le (zR h.r4 k e) hsz) ht), ?_, h.hm, h.hB, ?_⟩, b3⟩
 ·have h1 : Below w.heap.size w w2 := h.bel.trans (hb.mono h.bel.size)
  exact (zH h1 hg (fun k hk => by have := zT h.r3 k (hrow k hk); omega) h1.size).setCell (p := ⟨w.heap.size + 2, 3, none⟩) (by show w.heap.size <= w.heap.size + 2; omega) _
 have := tk.1
 rw [World.size_setCell]
 omega
theorem gQ.put4 {w m B sk nm ns v1 v2 v3 v4 As Es Ps Os} {V : World} (h : gQ w m B sk nm ns v1 v2 v3 v4 As Es Ps Os V) {w2 w4 : World} {p : GP} {v' : Value} (hb : Below V.heap.size V w2)
 (ho : w4.ownsRow B 83 3 v' (Os.length + 1) (Os.flatMap pP ++ pP p))
 (ht : (∃ g cap, v4 = .slice (some ⟨g, 0, none⟩) Os.length cap /\ v' = .slice (some ⟨g, 0, none⟩) (Os.length + 1) cap /\ w2.grownBy w4 (some g)) \/ (∃ cap, v' = .slice (some ⟨w2.heap.size, 0, none⟩) (Os.length + 1) cap /\ w2.grownBy w4 none)) :
 gQ w m B sk nm ns v1 v2 v3 v' As Es Ps (Os ++ [p]) (w4.setCell ⟨w.heap.size + 2, 4, none⟩ v') /\ zN 31 (w.heap.size + 2) w4 #[.string (zW nm), v1, v2, v3, v4] := by
 have hbig := h.big
 have hm := h.hm
 have hB := h.hB
 have hsz := hb.size
 have tk := xU ht
 have kp : ∀ d, d < V.heap.size -> v4.ownBlock ≠ some d -> w4.heap[d]? = V.heap[d]? := fun d hd hn => (tk.2 d (by omega) hn).trans (hb.block d hd)
 have lowr : ∀ d, d < B -> v4.ownBlock ≠ some d := fun d hd e => by have := zT h.r4 d e; omega
 have b3 := h.gb.keep (kp (w.heap.size + 2) (by omega) (lowr _ (by omega)))
 have set : ∀ k, k ≠ w.heap.size + 2 -> (w4.setCell ⟨w.heap.size + 2, 4, none⟩ v').heap[k]? = w4.heap[k]? := fun k hk => Below.heap_setCell w4 ⟨w.heap.size + 2, 4, none⟩ v' k hk
 have rI : (w4.setCell ⟨w.heap.size + 2, 4, none⟩ v').ownsRow B 83 3 v' (Os ++ [p]).length ((Os ++ [p]).flatMap pP) := by
  rw [wD, List.length_append]
  exact zV ho fun k e => set k (by have := zT ho k e; omega)
 obtain ⟨row, hg, hrow⟩ := xZ ht
 refine ⟨⟨h.sb.keep ((set _ (by omega)).trans (kp _ (by omega) (lowr _ (by omega)))), h.rb.keep ((set _ (by omega)).trans (kp _ (by omega) (lowr _ (by omega)))), b3.set 4 v', h.kn.keep ((set _ (by omega)).trans (kp _ (by omega) (lowr _ (by omega)))), (zV h.r1 fun k e => (set k (by have := zT h.r1 k e; omega)).trans (kp k (zR h.r1 k e) (fun q => h.n14.symm k q e))), (zV h.r2 fun k e => (set k (by have := zT h.r2 k e; omega)).trans (kp k (zR h.r2 k e) (fun q => h.n24.symm k q e))), (zV h.r3 fun k e => (set k (by have := zT h.r3 k e; omega)).trans (kp k (zR h.r3 k e) (fun q => h.n34.symm k q e))), rI, h.n12, h.n13, (NB.told (h.n14.symm) (fun k e => Nat.lt_of_lt_of_le (zR h.r1 k e) hsz) ht).symm, h.n23, (NB.told (h.n24.symm) (fun k e => Nat.lt_of_lt_of_le (zR h.r2 k e) hsz) ht).symm, (NB.told (h.n34.symm) (fun k e => Nat.lt_of_lt_of_le (zR h.r3 k e) hsz) ht).symm, ?_, h.hm, h.hB, ?_⟩, b3⟩
 ·have h1 : Below w.heap.size w w2 := h.bel.trans (hb.mono h.bel.size)
  exact (zH h1 hg (fun k hk => by have := zT h.r4 k (hrow k hk); omega) h1.size).setCell (p := ⟨w.heap.size + 2, 4, none⟩) (by show w.heap.size <= w.heap.size + 2; omega) _
 have := tk.1
 rw [World.size_setCell]
 omega
theorem dI (x : List UInt8) : ∀ (n t : Nat), t + n <= 12 -> (nT n t x).1 <= 11
 | 0, _, _ => by show 0 <= 11; omega
 | n + 1, t, h => by
  show (if yB t = x then (t, (0 : Int)) else nT n (t + 1) x).1 <= 11
  by_cases e : yB t = x
  ·rw [if_pos e]; show t <= 11; omega
  rw [if_neg e]; exact dI x n (t + 1) (by omega)
theorem dH (x : List UInt8) : (uY x).1 <= 11 := dI x 11 1 (by omega)
structure bZ (w : World) (L : List (yO × Value)) : Prop where
 args : ∀ p ∈ L, ∃ x c, p.2 = .slice x p.1.nums.length c /\ lJ w x p.1.nums.length c p.1.nums
 names : ∀ p ∈ L, p.1.name.length <= 140737488355328 /\ p.1.frm.name.length <= 140737488355328 /\ p.1.tgt.name.length <= 140737488355328
theorem bZ.below {w w' : World} {L : List (yO × Value)} (h : bZ w L) (hb : Below w.heap.size w w') : bZ w' L :=
 ⟨fun p hp => by obtain ⟨x, c, h1, h2⟩ := h.args p hp; exact ⟨x, c, h1, h2.below hb⟩, h.names⟩
def TW (w : World) (p : GA × Value) : Prop := p.1.tag <= 255 /\ ∃ x c, p.2 = .slice x p.1.params.length c /\ lJ w x p.1.params.length c p.1.params
def TV (w : World) (p : GE × Value) : Prop := ∃ x c, p.2 = .slice x p.1.start.length c /\ lJ w x p.1.start.length c p.1.start
structure iR (w : World) (ns : List (List UInt8)) (L : List yO) (As : List (GA × Value)) (Es : List (GE × Value)) (Ps Os : List GP) : Prop where
 a : As.map Prod.fst = (yA 1 L).map YF
 e : Es.map Prod.fst = (yA 2 L).map (VD ns)
 i : Ps = (yA 3 L).map (TY ns)
 o : Os = (yA 4 L).map (TX ns)
 pa : ∀ p ∈ As, TW w p
 pe : ∀ p ∈ Es, TV w p
theorem VZ (w : World) (ns : List (List UInt8)) : iR w ns [] [] [] [] [] := ⟨rfl, rfl, rfl, rfl, fun _ h => (by cases h), fun _ h => (by cases h)⟩
theorem iR.len {w ns L As Es Ps Os} (h : iR w ns L As Es Ps Os) : As.length <= L.length /\ Es.length <= L.length /\ Ps.length <= L.length /\ Os.length <= L.length := by
 have h1 := congrArg List.length h.a
 have h2 := congrArg List.length h.e
 have h3 := congrArg List.length h.i
 have h4 := congrArg List.length h.o
 simp only [List.length_map] at h1 h2 h3 h4
 have := uQ 1 L
 have := uQ 2 L
 have := uQ 3 L
 have := uQ 4 L
 omega
theorem iR.addA {w ns L As Es Ps Os} (h : iR w ns L As Es Ps Os) {x : yO} (hk : x.kind = 1) {q : Value} (hq : TW w (YF x, q)) : iR w ns (L ++ [x]) (As ++ [(YF x, q)]) Es Ps Os := by
 refine ⟨?_, ?_, ?_, ?_, fun p hp => ?_, h.pe⟩
 ·rw [zK, if_pos hk, List.map_append, List.map_append, h.a]; rfl
 ·rw [zK, if_neg (by rw [hk]; decide)]; exact h.e
 ·rw [zK, if_neg (by rw [hk]; decide)]; exact h.i
 ·rw [zK, if_neg (by rw [hk]; decide)]; exact h.o
 rcases List.mem_append.1 hp with hp | hp
 ·exact h.pa p hp
 rw [List.mem_singleton.1 hp]; exact hq
theorem iR.addE {w ns L As Es Ps Os} (h : iR w ns L As Es Ps Os) {x : yO} (hk : x.kind = 2) {q : Value} (hq : TV w (VD ns x, q)) : iR w ns (L ++ [x]) As (Es ++ [(VD ns x, q)]) Ps Os := by
 refine ⟨?_, ?_, ?_, ?_, h.pa, fun p hp => ?_⟩
 ·rw [zK, if_neg (by rw [hk]; decide)]; exact h.a
 ·rw [zK, if_pos hk, List.map_append, List.map_append, h.e]; rfl
 ·rw [zK, if_neg (by rw [hk]; decide)]; exact h.i
 ·rw [zK, if_neg (by rw [hk]; decide)]; exact h.o
 rcases List.mem_append.1 hp with hp | hp
 ·exact h.pe p hp
 rw [List.mem_singleton.1 hp]; exact hq
theorem iR.addI {w ns L As Es Ps Os} (h : iR w ns L As Es Ps Os) {x : yO} (hk : x.kind = 3) : iR w ns (L ++ [x]) As Es (Ps ++ [TY ns x]) Os := by
 refine ⟨?_, ?_, ?_, ?_, h.pa, h.pe⟩
 ·rw [zK, if_neg (by rw [hk]; decide)]; exact h.a
 ·rw [zK, if_neg (by rw [hk]; decide)]; exact h.e
 ·rw [zK, if_pos hk, List.map_append, h.i]; rfl
 rw [zK, if_neg (by rw [hk]; decide)]; exact h.o
theorem iR.addO {w ns L As Es Ps Os} (h : iR w ns L As Es Ps Os) {x : yO} (hk : x.kind = 4) : iR w ns (L ++ [x]) As Es Ps (Os ++ [TX ns x]) := by
 refine ⟨?_, ?_, ?_, ?_, h.pa, h.pe⟩
 ·rw [zK, if_neg (by rw [hk]; decide)]; exact h.a
 ·rw [zK, if_neg (by rw [hk]; decide)]; exact h.e
 ·rw [zK, if_neg (by rw [hk]; decide)]; exact h.i
 rw [zK, if_pos hk, List.map_append, h.o]; rfl
structure kU (B : Nat) (w : World) (v1 v2 v3 v4 : Value) (As : List (GA × Value)) (Es : List (GE × Value)) (Ps Os : List GP) : Prop where
 r1 : w.ownsRow B 61 3 v1 As.length (As.flatMap aP)
 r2 : w.ownsRow B 64 5 v2 Es.length (Es.flatMap eP)
 r3 : w.ownsRow B 83 3 v3 Ps.length (Ps.flatMap pP)
 r4 : w.ownsRow B 83 3 v4 Os.length (Os.flatMap pP)
 n12 : NB v1 v2
 n13 : NB v1 v3
 n14 : NB v1 v4
 n23 : NB v2 v3
 n24 : NB v2 v4
 n34 : NB v3 v4
def VB (w : World) (nm : List UInt8) (L : List yO) (e : Ending) (w' : World) : Prop :=
 ∃ v1 v2 v3 v4 As Es Ps Os, e = .returned (.agg #[.string (zW nm), v1, v2, v3, v4]) /\ kU w.heap.size w' v1 v2 v3 v4 As Es Ps Os /\ iR w (xF L) L As Es Ps Os /\ Below w.heap.size w w'
def qY (u : World) (p : GP) (v : Value) : Prop := ∃ h, v = .slice (some ⟨h, 0, none⟩) 1 1 /\ ∀ j y, (pP p)[j]? = some y -> u.cell? ((⟨h, 0, none⟩ : Addr).add j) = some y
theorem qY.later {u u' : World} {p : GP} {v : Value} (h : qY u p v) (hb : Below u.heap.size u u') : qY u' p v := by
 obtain ⟨g, h1, h2⟩ := h
 exact ⟨g, h1, fun j y hy => zX hb (h2 j y hy)⟩
theorem pG (u : World) (p : GP) : qY (u.alloc (.cells #[.string (zW p.name), .int .i64 p.actor, .int .i64 p.port] 83)) p (.slice (some ⟨u.heap.size, 0, none⟩) 1 1) := ⟨u.heap.size, rfl, vV u 83 (pP p)⟩
theorem ZH (x : GA) (a : Option Addr) (n c : Nat) : ∀ u ∈ aP (x, .slice a n c), u.oneCell' = true := by
 intro u hu
 simp only [aP, List.mem_cons, List.not_mem_nil, or_false] at hu
 rcases hu with rfl | rfl | rfl <;> rfl
theorem ZG (x : GE) (a : Option Addr) (n c : Nat) : ∀ u ∈ eP (x, .slice a n c), u.oneCell' = true := by
 intro u hu
 simp only [eP, List.mem_cons, List.not_mem_nil, or_false] at hu
 rcases hu with rfl | rfl | rfl | rfl | rfl <;> rfl
theorem jC (x : GP) : ∀ u ∈ pP x, u.oneCell' = true := by
 intro u hu
 simp only [pP, List.mem_cons, List.not_mem_nil, or_false] at hu
 rcases hu with rfl | rfl | rfl <;> rfl
theorem eU (nm : List UInt8) (a : Option Addr) (n c : Nat) (L : List (yO × Value)) (w : World) (hn : L.length = n) (h : nS w a L) (hO : bZ w L) (hl : n <= 2000000) (hk : ∀ p ∈ L, 1 <= p.1.kind /\ p.1.kind <= 4) :
 Calls Try.prog 15 #[.agg #[.string (zW nm), .slice a n c]] w (VB w nm (L.map Prod.fst)) := by
 have ba := (((Below.refl w.heap.size w).alloc (Nat.le_refl _) (.cells #[.string (zW nm), .slice a n c] 24)).alloc (by simp) (.cells #[.string ⟨#[]⟩, .slice none 0 0, .slice none 0 0, .slice none 0 0, .slice none 0 0] 31)).alloc (by simp; omega) (.cells #[.string (zW nm), .slice none 0 0, .slice none 0 0, .slice none 0 0, .slice none 0 0] 31)
 have sb := ((zU 24 w #[.string (zW nm), .slice a n c]).below ((Below.refl _ _).alloc (Nat.le_refl _) (.cells #[.string ⟨#[]⟩, .slice none 0 0, .slice none 0 0, .slice none 0 0, .slice none 0 0] 31))).below ((Below.refl _ _).alloc (Nat.le_refl _) (.cells #[.string (zW nm), .slice none 0 0, .slice none 0 0, .slice none 0 0, .slice none 0 0] 31))
 have rb : zN 31 (w.heap.size + 1) (((w.alloc (.cells #[.string (zW nm), .slice a n c] 24)).alloc (.cells #[.string ⟨#[]⟩, .slice none 0 0, .slice none 0 0, .slice none 0 0, .slice none 0 0] 31)).alloc (.cells #[.string (zW nm), .slice none 0 0, .slice none 0 0, .slice none 0 0, .slice none 0 0] 31)) #[.string ⟨#[]⟩, .slice none 0 0, .slice none 0 0, .slice none 0 0, .slice none 0 0] := by
  have h3 := (zU 31 (w.alloc (.cells #[.string (zW nm), .slice a n c] 24)) #[.string ⟨#[]⟩, .slice none 0 0, .slice none 0 0, .slice none 0 0, .slice none 0 0]).below ((Below.refl _ _).alloc (Nat.le_refl _) (.cells #[.string (zW nm), .slice none 0 0, .slice none 0 0, .slice none 0 0, .slice none 0 0] 31))
  rw [World.size_alloc] at h3
  exact h3
 have gb : zN 31 (w.heap.size + 2) (((w.alloc (.cells #[.string (zW nm), .slice a n c] 24)).alloc (.cells #[.string ⟨#[]⟩, .slice none 0 0, .slice none 0 0, .slice none 0 0, .slice none 0 0] 31)).alloc (.cells #[.string (zW nm), .slice none 0 0, .slice none 0 0, .slice none 0 0, .slice none 0 0] 31)) #[.string (zW nm), .slice none 0 0, .slice none 0 0, .slice none 0 0, .slice none 0 0] := by
  have h3 := zU 31 ((w.alloc (.cells #[.string (zW nm), .slice a n c] 24)).alloc (.cells #[.string ⟨#[]⟩, .slice none 0 0, .slice none 0 0, .slice none 0 0, .slice none 0 0] 31)) #[.string (zW nm), .slice none 0 0, .slice none 0 0, .slice none 0 0, .slice none 0 0]
  rw [World.size_alloc, World.size_alloc] at h3
  exact h3
 have NB0 := zZ (gR a n c L _ hn (h.below ba) (by omega) (fun p hp => (hO.names p hp).1))
 have BA := zZ ba
 have SB := zZ sb
 have RB := zZ rb
 have GB := zZ gb
 have HR := zZ h
 have HO := zZ hO
 have HL := zZ hn
 have HK := zZ hk
 have hnI : (n : Int) <= 2000000 := by omega
 have y1 := sb.cell (k := 1) rfl
 obtain ⟨iA, hiA, hzA0, hzA1, hzA2⟩ := info_parts Try.infoA
 have JA := zZ hiA
 have JA0 := zZ hzA0
 have JA1 := zZ hzA1
 have JA2 := zZ hzA2
 obtain ⟨iE, hiE, hzE0, hzE1, hzE2⟩ := info_parts Try.infoE
 have JE := zZ hiE
 have JE0 := zZ hzE0
 have JE1 := zZ hzE1
 have JE2 := zZ hzE2
 obtain ⟨iP, hiP, hzP0, hzP1, hzP2⟩ := info_parts Try.infoP
 have JP := zZ hiP
 have JP0 := zZ hzP0
 have JP1 := zZ hzP1
 have JP2 := zZ hzP2
 clear ba sb rb gb h hO hn hk hiA hzA0 hzA1 hzA2 hiE hzE0 hzE1 hzE2 hiP hzP0 hzP1 hzP2
 go_enter Try.func15, Try.ntmps15
 go_upto_region 2 with fail
 generalize ((w.alloc (.cells #[.string (zW nm), .slice a n c] 24)).alloc (.cells #[.string ⟨#[]⟩, .slice none 0 0, .slice none 0 0, .slice none 0 0, .slice none 0 0] 31)).alloc (.cells #[.string (zW nm), .slice none 0 0, .slice none 0 0, .slice none 0 0, .slice none 0 0] 31) = W1 at *
 go_upto_region 3 with (go_at_call 34; (with_reducible refine NB0.out.mono ?_); rintro e w1 ⟨m, rfl, hK, hm, b1⟩; have K1 := zZ hK; have M1 := zZ hm; have B1 := zZ b1; clear hK hm b1 y1)
 have D0 : Hid (gQ w m w1.heap.size #[.string (zW nm), .slice a n c] nm (xF (L.map Prod.fst)) (.slice none 0 0) (.slice none 0 0) (.slice none 0 0) (.slice none 0 0) [] [] [] [] w1) := by
  have hm3 : w.heap.size + 2 < W1.heap.size := GB.out.lt
  exact ⟨SB.out.below B1.out, RB.out.below B1.out, GB.out.below B1.out, K1.out, World.ownsRow_nil _ _ _ _, World.ownsRow_nil _ _ _ _, World.ownsRow_nil _ _ _ _, World.ownsRow_nil _ _ _ _, NB.nilL _, NB.nilL _, NB.nilL _, NB.nilL _, NB.nilL _, NB.nilL _, BA.out.trans (B1.out.mono BA.out.size), Nat.lt_of_lt_of_le hm3 M1.out, K1.out.lt, Nat.le_refl _⟩
 have y1 : w1.cell? ⟨w.heap.size, 1, none⟩ = some (.slice a n c) := D0.out.sb.cell rfl
 generalize hns : xF (L.map Prod.fst) = ns at *
 have HNS := zZ hns
 obtain ⟨B, hBe⟩ : ∃ B, w1.heap.size = B := ⟨_, rfl⟩
 rw [hBe] at D0
 clear NB0 B1 M1 K1 BA SB RB GB hns hBe
 go_wp2
 go_loopg [20] n (fun gk v wr => ∃ (k : Nat) (v1 v2 v3 v4 : Value) (As : List (GA × Value)) (Es : List (GE × Value)) (Ps Os : List GP), k <= n /\ gk = n - k /\ v = .int .i64 (k : Int) /\ gQ w m B #[.string (zW nm), .slice a n c] nm ns v1 v2 v3 v4 As Es Ps Os wr /\ iR w ns ((L.map Prod.fst).take k) As Es Ps Os)
 case atStart => exact ⟨0, _, _, _, _, [], [], [], [], Nat.zero_le _, rfl, rfl, D0.out, VZ _ _⟩
 case round =>
  clear D0
  obtain ⟨k, v1, v2, v3, v4, As, Es, Ps, Os, hk, rfl, rfl, hD, hLl⟩ := hrel
  obtain ⟨x1, d1, rfl⟩ := zC hD.r1
  obtain ⟨x2, d2, rfl⟩ := zC hD.r2
  obtain ⟨x3, d3, rfl⟩ := zC hD.r3
  obtain ⟨x4, d4, rfl⟩ := zC hD.r4
  have DD := zZ hD
  have LL := zZ hLl
  have LN : As.length <= 2000000 /\ Es.length <= 2000000 /\ Ps.length <= 2000000 /\ Os.length <= 2000000 := by
   have q := hLl.len
   rw [List.length_take, List.length_map] at q
   omega
  clear hD hLl
  by_cases hlt : k < n
  ·have hki : (k : Int) < (n : Int) := by omega
   have hr := HR.out.below DD.out.bel
   have hkl : k < L.length := by have := HL.out; omega
   rcases hr.lie with e | ⟨g, off, rfl, hc⟩
   ·rw [e] at hkl; exact absurd hkl (Nat.not_lt_zero _)
   obtain ⟨c0, c1, c2, c3, c4, c5, c6, c7, c8, c9, c10⟩ := hc k hkl
   have hmem := yJ (L := L) hkl
   obtain ⟨qa, qc, hq, hqa⟩ := HO.out.args _ hmem
   rw [hq] at c3
   have HQA := zZ hqa
   obtain ⟨hn1, hn2, hn3⟩ := HO.out.names _ hmem
   have HNfn := zZ hn2
   have HNtn := zZ hn3
   have hkk := HK.out _ hmem
   have TK := zZ (oK hkl)
   generalize (yV L k).1 = x at *
   obtain ⟨ki, xn, xt, nu, ⟨fn, fp, fa⟩, ⟨tn, tp, ta⟩, pl⟩ := x
   obtain ⟨qn, hqn⟩ : ∃ q, nu.length = q := ⟨_, rfl⟩
   have HQN := zZ hqn
   simp only at c0 c1 c2 c3 c4 c5 c6 c7 c8 c9 c10 HQA HNfn HNtn hkk
   rw [hqn] at c3 HQA
   clear hc hr hq hqa hn1 hn2 hn3 hmem hqn
   have bv := (Below.refl wr.heap.size wr).alloc (Nat.le_refl _) (.cells #[.int .u8 ki, .string (zW xn), .string (zW xt), .slice qa qn qc, .string (zW fn), .int .i64 fp, .int .i64 fa, .string (zW tn), .int .i64 tp, .int .i64 ta, .int .i64 pl] 45)
   have DV := zZ (DD.out.below bv)
   have bx := zU 45 wr #[.int .u8 ki, .string (zW xn), .string (zW xt), .slice qa qn qc, .string (zW fn), .int .i64 fp, .int .i64 fa, .string (zW tn), .int .i64 tp, .int .i64 ta, .int .i64 pl]
   have bb0 := bx.cell (k := 0) rfl
   have bb1 := bx.cell (k := 1) rfl
   have bb2 := bx.cell (k := 2) rfl
   have bb3 := bx.cell (k := 3) rfl
   have bb4 := bx.cell (k := 4) rfl
   have bb5 := bx.cell (k := 5) rfl
   have bb6 := bx.cell (k := 6) rfl
   have bb7 := bx.cell (k := 7) rfl
   have bb8 := bx.cell (k := 8) rfl
   have bb9 := bx.cell (k := 9) rfl
   have bb10 := bx.cell (k := 10) rfl
   have BX := zZ bx
   have NO : Hid (∀ U, Below (wr.alloc (.cells #[.int .u8 ki, .string (zW xn), .string (zW xt), .slice qa qn qc, .string (zW fn), .int .i64 fp, .int .i64 fa, .string (zW tn), .int .i64 tp, .int .i64 ta, .int .i64 pl] 45)).heap.size (wr.alloc (.cells #[.int .u8 ki, .string (zW xn), .string (zW xt), .slice qa qn qc, .string (zW fn), .int .i64 fp, .int .i64 fa, .string (zW tn), .int .i64 tp, .int .i64 ta, .int .i64 pl] 45)) U -> ∀ l : List UInt8, l.length <= 140737488355328 -> Calls Try.prog 36 #[.map (some m), .string (zW l)] U fun e w' => e = .returned (.int .i64 (xN ns l)) /\ Below U.heap.size U w') := fun U hb l hl => jD U m ns l (DV.out.kn.below hb) hl
   have gg1 : (wr.alloc (.cells #[.int .u8 ki, .string (zW xn), .string (zW xt), .slice qa qn qc, .string (zW fn), .int .i64 fp, .int .i64 fa, .string (zW tn), .int .i64 tp, .int .i64 ta, .int .i64 pl] 45)).cell? ⟨w.heap.size + 2, 1, none⟩ = some (.slice x1 As.length d1) := DV.out.gb.cell rfl
   have gg2 : (wr.alloc (.cells #[.int .u8 ki, .string (zW xn), .string (zW xt), .slice qa qn qc, .string (zW fn), .int .i64 fp, .int .i64 fa, .string (zW tn), .int .i64 tp, .int .i64 ta, .int .i64 pl] 45)).cell? ⟨w.heap.size + 2, 2, none⟩ = some (.slice x2 Es.length d2) := DV.out.gb.cell rfl
   have gg3 : (wr.alloc (.cells #[.int .u8 ki, .string (zW xn), .string (zW xt), .slice qa qn qc, .string (zW fn), .int .i64 fp, .int .i64 fa, .string (zW tn), .int .i64 tp, .int .i64 ta, .int .i64 pl] 45)).cell? ⟨w.heap.size + 2, 3, none⟩ = some (.slice x3 Ps.length d3) := DV.out.gb.cell rfl
   have gg4 : (wr.alloc (.cells #[.int .u8 ki, .string (zW xn), .string (zW xt), .slice qa qn qc, .string (zW fn), .int .i64 fp, .int .i64 fa, .string (zW tn), .int .i64 tp, .int .i64 ta, .int .i64 pl] 45)).cell? ⟨w.heap.size + 2, 4, none⟩ = some (.slice x4 Os.length d4) := DV.out.gb.cell rfl
   clear bv bx
   have hcase : ki = 1 \/ ki = 2 \/ ki = 3 \/ ki = 4 := by omega
   clear hkk
   rcases hcase with rfl | rfl | rfl | rfl
   ·have TG : Hid (∀ U, Calls Try.prog 35 #[.string (zW xt)] U fun e w' => e = .returned (.tuple #[.int .u8 ((uY xt).1 : Int), .int .i64 (uY xt).2]) /\ Below U.heap.size U w') := fun U => WT xt U
    have HTL := zZ (dH xt)
    have HLU : Hid (YF ⟨1, xn, xt, nu, ⟨fn, fp, fa⟩, ⟨tn, tp, ta⟩, pl⟩ = ⟨xn, (uY xt).1, nu⟩) := by rfl
    have GZ0 := zZ DV.out.gb
    generalize (uY xt).2 = te at *
    generalize (uY xt).1 = tg at *
    go_upto_region 8 with fail
    generalize wr.alloc (.cells #[.int .u8 1, .string (zW xn), .string (zW xt), .slice qa qn qc, .string (zW fn), .int .i64 fp, .int .i64 fa, .string (zW tn), .int .i64 tp, .int .i64 ta, .int .i64 pl] 45) = V at *
    clear c0 c1 c2 c3 c4 c5 c6 c7 c8 c9 c10
    have HN1 : Hid (∀ U, Below V.heap.size V U -> U.cell? ⟨wr.heap.size, 1, none⟩ = some (.string (zW xn)) /\ U.cell? ⟨wr.heap.size, 3, none⟩ = some (.slice qa qn qc) /\ U.cell? ⟨w.heap.size + 2, 1, none⟩ = some (.slice x1 As.length d1)) := fun U hb => ⟨zX hb bb1, zX hb bb3, zX hb gg1⟩
    clear bb0 bb1 bb3 bb4 bb5 bb6 bb7 bb8 bb9 bb10 gg1 gg2 gg3 gg4
    go_wp2_with (first
     | (at_builtin; refine zJ _ rfl (.tmp 35) (.tmp 42) 27 rfl B 61 iA (.agg #[.string ⟨#[]⟩, .int .u8 0, .slice none 0 0]) 3 48 Try.underlying27 JA.out JA0.out JA1.out JA2.out rfl (by decide) (.slice x1 As.length d1) As.length (As.flatMap aP) rfl (zS DV.out.r1 (B5.out.alloc B5.out.size (.cells #[.string (zW xn), .int .u8 (tg : Int), .slice qa qn qc] 61))) ⟨w5.heap.size, 0, none⟩ 1 1 (by decide) (aP (⟨xn, tg, nu⟩, .slice qa qn qc)) rfl rfl (vV w5 61 (aP (⟨xn, tg, nu⟩, .slice qa qn qc))) (ZH _ _ _ _) (by unfold maxLen; omega) (by omega) (Nat.le_trans DV.out.big ((B5.out.alloc B5.out.size (.cells #[.string (zW xn), .int .u8 (tg : Int), .slice qa qn qc] 61))).size) ?_; intro v' w4 ho ht; obtain ⟨D10, bk⟩ := DV.out.put1 (B5.out.alloc B5.out.size (.cells #[.string (zW xn), .int .u8 (tg : Int), .slice qa qn qc] 61)) ho ht; obtain ⟨va4, vc4, rfl⟩ := yG ht; have E10 := zZ D10; have s1 : w4.cell? ⟨w.heap.size + 2, 1, none⟩ = some (.slice x1 As.length d1) := bk.cell rfl; have f1 := bk.frozen 1; clear ho ht D10 bk)
     | (go_at_call 35; (with_reducible refine (TG.out _).mono ?_); rintro e w5 ⟨rfl, b5⟩; obtain ⟨z1, z3, zg⟩ := HN1.out w5 b5; have B5 := zZ b5; clear b5 bb2))
    go_roundg (n - (k + 1))
    case measure => omega
    case rel => exact ⟨k + 1, _, _, _, _, As ++ [(⟨xn, tg, nu⟩, .slice qa qn qc)], Es, Ps, Os, by omega, rfl, by go_num, E10.out, by rw [TK.out]; exact (by have r := LL.out.addA (x := ⟨1, xn, xt, nu, ⟨fn, fp, fa⟩, ⟨tn, tp, ta⟩, pl⟩) rfl (q := .slice qa qn qc) (by rw [HLU.out]; exact ⟨by show tg <= 255; have := HTL.out; omega, qa, qc, by rw [HQN.out], by rw [HQN.out]; exact HQA.out⟩); rw [HLU.out] at r; exact r)⟩
   ·go_upto_region 11 with fail
    generalize wr.alloc (.cells #[.int .u8 2, .string (zW xn), .string (zW xt), .slice qa qn qc, .string (zW fn), .int .i64 fp, .int .i64 fa, .string (zW tn), .int .i64 tp, .int .i64 ta, .int .i64 pl] 45) = V at *
    clear c0 c1 c2 c3 c4 c5 c6 c7 c8 c9 c10
    refine zP 10 (fun i u v => match i with
     | 0 => v = .map (some m)
     | 1 => v = .pointer (some ⟨wr.heap.size, 4, none⟩)
     | 2 => v = .pointer (some ⟨wr.heap.size, 4, none⟩)
     | 3 => v = .string (zW fn)
     | 4 => v = .int .i64 (xN ns fn)
     | 5 => v = .map (some m)
     | 6 => v = .pointer (some ⟨wr.heap.size, 7, none⟩)
     | 7 => v = .pointer (some ⟨wr.heap.size, 7, none⟩)
     | 8 => v = .string (zW tn)
     | 9 => v = .int .i64 (xN ns tn)
     | _ => True) (by kernel_rfl) (by kernel_rfl) (by kernel_rfl) (by kernel_rfl) ?_ ?_ ?_
    ·intro i w v w' h hb
     match i, h with
     | 0, h => exact h
     | 1, h => exact h
     | 2, h => exact h
     | 3, h => exact h
     | 4, h => exact h
     | 5, h => exact h
     | 6, h => exact h
     | 7, h => exact h
     | 8, h => exact h
     | 9, h => exact h
     | _ + 10, _ => trivial
    ·intro i o ρ w' hi ho hb hc hf hfr zY
     have b4 := zX hb bb4
     have b7 := zX hb bb7
     match i, hi with
     | 0, _ =>
      simp only [qS] at ho
      subst ho
      have ts : ρ (.tmp 4) = .map (some m) := hfr 4 (by kernel_rfl)
      simp [go_sem, ts]
      exact qB
     | 1, _ =>
      simp only [qS] at ho
      subst ho
      have ts : ρ (.tmp 6) = .pointer (some ⟨wr.heap.size, 0, none⟩) := hfr 6 (by kernel_rfl)
      simp [go_sem, ts]
      exact qB
     | 2, _ =>
      simp only [qS] at ho
      subst ho
      have ts : ρ (.tmp 48) = .pointer (some ⟨wr.heap.size, 4, none⟩) := zY 1 48 (by kernel_rfl) (by kernel_rfl)
      simp [go_sem, ts]
      exact qB
     | 3, _ =>
      simp only [qS] at ho
      subst ho
      have ts : ρ (.tmp 49) = .pointer (some ⟨wr.heap.size, 4, none⟩) := zY 2 49 (by kernel_rfl) (by kernel_rfl)
      simp [go_sem, ts, b4]
      exact qB
     | 4, _ =>
      simp only [qS] at ho
      subst ho
      have t0 : ρ (.tmp 47) = .map (some m) := zY 0 47 (by kernel_rfl) (by kernel_rfl)
      have t1 : ρ (.tmp 50) = .string (zW fn) := zY 3 50 (by kernel_rfl) (by kernel_rfl)
      simp [go_sem, t0, t1, hf]
      exact ⟨rfl, (NO.out w' hb fn HNfn.out).mono fun e w'' hh => ⟨_, hh.1, hh.2, rfl⟩⟩
     | 5, _ =>
      simp only [qS] at ho
      subst ho
      have ts : ρ (.tmp 4) = .map (some m) := hfr 4 (by kernel_rfl)
      simp [go_sem, ts]
      exact qB
     | 6, _ =>
      simp only [qS] at ho
      subst ho
      have ts : ρ (.tmp 6) = .pointer (some ⟨wr.heap.size, 0, none⟩) := hfr 6 (by kernel_rfl)
      simp [go_sem, ts]
      exact qB
     | 7, _ =>
      simp only [qS] at ho
      subst ho
      have ts : ρ (.tmp 53) = .pointer (some ⟨wr.heap.size, 7, none⟩) := zY 6 53 (by kernel_rfl) (by kernel_rfl)
      simp [go_sem, ts]
      exact qB
     | 8, _ =>
      simp only [qS] at ho
      subst ho
      have ts : ρ (.tmp 54) = .pointer (some ⟨wr.heap.size, 7, none⟩) := zY 7 54 (by kernel_rfl) (by kernel_rfl)
      simp [go_sem, ts, b7]
      exact qB
     | 9, _ =>
      simp only [qS] at ho
      subst ho
      have t0 : ρ (.tmp 52) = .map (some m) := zY 5 52 (by kernel_rfl) (by kernel_rfl)
      have t1 : ρ (.tmp 55) = .string (zW tn) := zY 8 55 (by kernel_rfl) (by kernel_rfl)
      simp [go_sem, t0, t1, hf]
      exact ⟨rfl, (NO.out w' hb tn HNtn.out).mono fun e w'' hh => ⟨_, hh.1, hh.2, rfl⟩⟩
    intro V9 w9 q9 hS
    have e0 : V9 0 = .map (some m) := hS 0 (by decide)
    have e1 : V9 1 = .pointer (some ⟨wr.heap.size, 4, none⟩) := hS 1 (by decide)
    have e2 : V9 2 = .pointer (some ⟨wr.heap.size, 4, none⟩) := hS 2 (by decide)
    have e3 : V9 3 = .string (zW fn) := hS 3 (by decide)
    have e4 : V9 4 = .int .i64 (xN ns fn) := hS 4 (by decide)
    have e5 : V9 5 = .map (some m) := hS 5 (by decide)
    have e6 : V9 6 = .pointer (some ⟨wr.heap.size, 7, none⟩) := hS 6 (by decide)
    have e7 : V9 7 = .pointer (some ⟨wr.heap.size, 7, none⟩) := hS 7 (by decide)
    have e8 : V9 8 = .string (zW tn) := hS 8 (by decide)
    have e9 : V9 9 = .int .i64 (xN ns tn) := hS 9 (by decide)
    simp only [List.drop_succ_cons, List.drop_zero, List.take_succ_cons, List.take_zero, yL, e0, e1, e2, e3, e4, e5, e6, e7, e8, e9]
    clear hS e0 e1 e2 e3 e4 e5 e6 e7 e8 e9 V9
    simp only [Act.put, qU]
    have B5 := zZ q9
    have z5 := zX q9 bb5
    have z8 := zX q9 bb8
    have z3 := zX q9 bb3
    have zg := zX q9 gg2
    clear q9 bb0 bb1 bb2 bb3 bb4 bb5 bb6 bb7 bb8 bb9 bb10 gg1 gg2 gg3 gg4 NO
    have HLU : Hid (VD ns ⟨2, xn, xt, nu, ⟨fn, fp, fa⟩, ⟨tn, tp, ta⟩, pl⟩ = ⟨xN ns fn, fp, xN ns tn, tp, nu⟩) := by rfl
    generalize xN ns fn = u1 at *
    generalize xN ns tn = u2 at *
    go_wp2_with (at_builtin; refine zJ _ rfl (.tmp 58) (.tmp 70) 28 rfl B 64 iE (.agg #[.int .i64 0, .int .i64 0, .int .i64 0, .int .i64 0, .slice none 0 0]) 5 56 Try.underlying28 JE.out JE0.out JE1.out JE2.out rfl (by decide) (.slice x2 Es.length d2) Es.length (Es.flatMap eP) rfl (zS DV.out.r2 (B5.out.alloc B5.out.size (.cells #[.int .i64 u1, .int .i64 fp, .int .i64 u2, .int .i64 tp, .slice qa qn qc] 64))) ⟨w9.heap.size, 0, none⟩ 1 1 (by decide) (eP (⟨u1, fp, u2, tp, nu⟩, .slice qa qn qc)) rfl rfl (vV w9 64 (eP (⟨u1, fp, u2, tp, nu⟩, .slice qa qn qc))) (ZG _ _ _ _) (by unfold maxLen; omega) (by omega) (Nat.le_trans DV.out.big ((B5.out.alloc B5.out.size (.cells #[.int .i64 u1, .int .i64 fp, .int .i64 u2, .int .i64 tp, .slice qa qn qc] 64))).size) ?_; intro v' w4 ho ht; obtain ⟨D10, bk⟩ := DV.out.put2 (B5.out.alloc B5.out.size (.cells #[.int .i64 u1, .int .i64 fp, .int .i64 u2, .int .i64 tp, .slice qa qn qc] 64)) ho ht; obtain ⟨va4, vc4, rfl⟩ := yG ht; have E10 := zZ D10; have s1 : w4.cell? ⟨w.heap.size + 2, 2, none⟩ = some (.slice x2 Es.length d2) := bk.cell rfl; have f1 := bk.frozen 2; clear ho ht D10 bk)
    go_roundg (n - (k + 1))
    case measure => omega
    case rel => exact ⟨k + 1, _, _, _, _, As, Es ++ [(⟨u1, fp, u2, tp, nu⟩, .slice qa qn qc)], Ps, Os, by omega, rfl, by go_num, E10.out, by rw [TK.out]; exact (by have r := LL.out.addE (x := ⟨2, xn, xt, nu, ⟨fn, fp, fa⟩, ⟨tn, tp, ta⟩, pl⟩) rfl (q := .slice qa qn qc) (by rw [HLU.out]; exact ⟨qa, qc, by rw [HQN.out], by rw [HQN.out]; exact HQA.out⟩); rw [HLU.out] at r; exact r)⟩
   ·go_upto_region 14 with fail
    generalize wr.alloc (.cells #[.int .u8 3, .string (zW xn), .string (zW xt), .slice qa qn qc, .string (zW fn), .int .i64 fp, .int .i64 fa, .string (zW tn), .int .i64 tp, .int .i64 ta, .int .i64 pl] 45) = V at *
    clear c0 c1 c2 c3 c4 c5 c6 c7 c8 c9 c10
    refine zP 14 (fun i u v => match i with
     | 0 => v = .pointer (some ⟨w.heap.size + 2, 3, none⟩)
     | 1 => v = .slice x3 Ps.length d3
     | 2 => v = .pointer (some ⟨wr.heap.size, 1, none⟩)
     | 3 => v = .string (zW xn)
     | 4 => v = .map (some m)
     | 5 => v = .pointer (some ⟨wr.heap.size, 7, none⟩)
     | 6 => v = .pointer (some ⟨wr.heap.size, 7, none⟩)
     | 7 => v = .string (zW tn)
     | 8 => v = .int .i64 (xN ns tn)
     | 9 => v = .pointer (some ⟨wr.heap.size, 7, none⟩)
     | 10 => v = .pointer (some ⟨wr.heap.size, 8, none⟩)
     | 11 => v = .int .i64 tp
     | 12 => v = .agg #[.string (zW xn), .int .i64 (xN ns tn), .int .i64 tp]
     | 13 => qY u ⟨xn, xN ns tn, tp⟩ v
     | _ => True) (by kernel_rfl) (by kernel_rfl) (by kernel_rfl) (by kernel_rfl) ?_ ?_ ?_
    ·intro i w v w' h hb
     match i, h with
     | 0, h => exact h
     | 1, h => exact h
     | 2, h => exact h
     | 3, h => exact h
     | 4, h => exact h
     | 5, h => exact h
     | 6, h => exact h
     | 7, h => exact h
     | 8, h => exact h
     | 9, h => exact h
     | 10, h => exact h
     | 11, h => exact h
     | 12, h => exact h
     | 13, h => exact qY.later h hb
     | _ + 14, _ => trivial
    ·intro i o ρ w' hi ho hb hc hf hfr zY
     have b1 := zX hb bb1
     have b7 := zX hb bb7
     have b8 := zX hb bb8
     have g3 := zX hb gg3
     match i, hi with
     | 0, _ =>
      simp only [qS] at ho
      subst ho
      have ts : ρ (.tmp 3) = .pointer (some ⟨w.heap.size + 2, 0, none⟩) := hfr 3 (by kernel_rfl)
      simp [go_sem, ts]
      exact qB
     | 1, _ =>
      simp only [qS] at ho
      subst ho
      have ts : ρ (.tmp 75) = .pointer (some ⟨w.heap.size + 2, 3, none⟩) := zY 0 75 (by kernel_rfl) (by kernel_rfl)
      simp [go_sem, ts, g3]
      exact qB
     | 2, _ =>
      simp only [qS] at ho
      subst ho
      have ts : ρ (.tmp 6) = .pointer (some ⟨wr.heap.size, 0, none⟩) := hfr 6 (by kernel_rfl)
      simp [go_sem, ts]
      exact qB
     | 3, _ =>
      simp only [qS] at ho
      subst ho
      have ts : ρ (.tmp 77) = .pointer (some ⟨wr.heap.size, 1, none⟩) := zY 2 77 (by kernel_rfl) (by kernel_rfl)
      simp [go_sem, ts, b1]
      exact qB
     | 4, _ =>
      simp only [qS] at ho
      subst ho
      have ts : ρ (.tmp 4) = .map (some m) := hfr 4 (by kernel_rfl)
      simp [go_sem, ts]
      exact qB
     | 5, _ =>
      simp only [qS] at ho
      subst ho
      have ts : ρ (.tmp 6) = .pointer (some ⟨wr.heap.size, 0, none⟩) := hfr 6 (by kernel_rfl)
      simp [go_sem, ts]
      exact qB
     | 6, _ =>
      simp only [qS] at ho
      subst ho
      have ts : ρ (.tmp 80) = .pointer (some ⟨wr.heap.size, 7, none⟩) := zY 5 80 (by kernel_rfl) (by kernel_rfl)
      simp [go_sem, ts]
      exact qB
     | 7, _ =>
      simp only [qS] at ho
      subst ho
      have ts : ρ (.tmp 81) = .pointer (some ⟨wr.heap.size, 7, none⟩) := zY 6 81 (by kernel_rfl) (by kernel_rfl)
      simp [go_sem, ts, b7]
      exact qB
     | 8, _ =>
      simp only [qS] at ho
      subst ho
      have t0 : ρ (.tmp 79) = .map (some m) := zY 4 79 (by kernel_rfl) (by kernel_rfl)
      have t1 : ρ (.tmp 82) = .string (zW tn) := zY 7 82 (by kernel_rfl) (by kernel_rfl)
      simp [go_sem, t0, t1, hf]
      exact ⟨rfl, (NO.out w' hb tn HNtn.out).mono fun e w'' hh => ⟨_, hh.1, hh.2, rfl⟩⟩
     | 9, _ =>
      simp only [qS] at ho
      subst ho
      have ts : ρ (.tmp 6) = .pointer (some ⟨wr.heap.size, 0, none⟩) := hfr 6 (by kernel_rfl)
      simp [go_sem, ts]
      exact qB
     | 10, _ =>
      simp only [qS] at ho
      subst ho
      have ts : ρ (.tmp 84) = .pointer (some ⟨wr.heap.size, 7, none⟩) := zY 9 84 (by kernel_rfl) (by kernel_rfl)
      simp [go_sem, ts]
      exact qB
     | 11, _ =>
      simp only [qS] at ho
      subst ho
      have ts : ρ (.tmp 85) = .pointer (some ⟨wr.heap.size, 8, none⟩) := zY 10 85 (by kernel_rfl) (by kernel_rfl)
      simp [go_sem, ts, b8]
      exact qB
     | 12, _ =>
      simp only [qS] at ho
      subst ho
      have t0 : ρ (.tmp 78) = .string (zW xn) := zY 3 78 (by kernel_rfl) (by kernel_rfl)
      have t1 : ρ (.tmp 83) = .int .i64 (xN ns tn) := zY 8 83 (by kernel_rfl) (by kernel_rfl)
      have t2 : ρ (.tmp 86) = .int .i64 tp := zY 11 86 (by kernel_rfl) (by kernel_rfl)
      simp [go_sem, t0, t1, t2]
      exact qB
     | 13, _ =>
      simp only [qS] at ho
      subst ho
      have t0 : ρ (.tmp 87) = .agg #[.string (zW xn), .int .i64 (xN ns tn), .int .i64 tp] := zY 12 87 (by kernel_rfl) (by kernel_rfl)
      simp [go_sem, t0]
      exact ⟨(Below.refl _ _).alloc (Nat.le_refl _) _, pG w' ⟨xn, xN ns tn, tp⟩⟩
    intro V9 w9 q9 hS
    have e0 : V9 0 = .pointer (some ⟨w.heap.size + 2, 3, none⟩) := hS 0 (by decide)
    have e1 : V9 1 = .slice x3 Ps.length d3 := hS 1 (by decide)
    have e2 : V9 2 = .pointer (some ⟨wr.heap.size, 1, none⟩) := hS 2 (by decide)
    have e3 : V9 3 = .string (zW xn) := hS 3 (by decide)
    have e4 : V9 4 = .map (some m) := hS 4 (by decide)
    have e5 : V9 5 = .pointer (some ⟨wr.heap.size, 7, none⟩) := hS 5 (by decide)
    have e6 : V9 6 = .pointer (some ⟨wr.heap.size, 7, none⟩) := hS 6 (by decide)
    have e7 : V9 7 = .string (zW tn) := hS 7 (by decide)
    have e8 : V9 8 = .int .i64 (xN ns tn) := hS 8 (by decide)
    have e9 : V9 9 = .pointer (some ⟨wr.heap.size, 7, none⟩) := hS 9 (by decide)
    have e10 : V9 10 = .pointer (some ⟨wr.heap.size, 8, none⟩) := hS 10 (by decide)
    have e11 : V9 11 = .int .i64 tp := hS 11 (by decide)
    have e12 : V9 12 = .agg #[.string (zW xn), .int .i64 (xN ns tn), .int .i64 tp] := hS 12 (by decide)
    obtain ⟨hx, e13, Q1⟩ : qY w9 ⟨xn, xN ns tn, tp⟩ (V9 13) := hS 13 (by decide)
    simp only [List.drop_succ_cons, List.drop_zero, List.take_succ_cons, List.take_zero, yL, e0, e1, e2, e3, e4, e5, e6, e7, e8, e9, e10, e11, e12, e13]
    clear hS e0 e1 e2 e3 e4 e5 e6 e7 e8 e9 e10 e11 e12 e13 V9
    simp only [Act.put, qU]
    have B5 := zZ q9
    have QC := zZ Q1
    clear q9 Q1 bb0 bb1 bb2 bb3 bb4 bb5 bb6 bb7 bb8 bb9 bb10 gg1 gg2 gg3 gg4 NO
    have HLU : Hid (TY ns ⟨3, xn, xt, nu, ⟨fn, fp, fa⟩, ⟨tn, tp, ta⟩, pl⟩ = ⟨xn, xN ns tn, tp⟩) := by rfl
    go_wp2_with (at_builtin; refine zJ _ rfl (.tmp 76) (.tmp 88) 29 rfl B 83 iP (.agg #[.string ⟨#[]⟩, .int .i64 0, .int .i64 0]) 3 32 Try.underlying29 JP.out JP0.out JP1.out JP2.out rfl (by decide) (.slice x3 Ps.length d3) Ps.length (Ps.flatMap pP) rfl (zS DV.out.r3 B5.out) ⟨hx, 0, none⟩ 1 1 (by decide) (pP ⟨xn, xN ns tn, tp⟩) rfl rfl QC.out (jC _) (by unfold maxLen; omega) (by omega) (Nat.le_trans DV.out.big (B5.out).size) ?_; intro v' w4 ho ht; obtain ⟨D10, bk⟩ := DV.out.put3 B5.out ho ht; obtain ⟨va4, vc4, rfl⟩ := yG ht; have E10 := zZ D10; have s1 : w4.cell? ⟨w.heap.size + 2, 3, none⟩ = some (.slice x3 Ps.length d3) := bk.cell rfl; have f1 := bk.frozen 3; clear ho ht D10 bk)
    go_roundg (n - (k + 1))
    case measure => omega
    case rel => exact ⟨k + 1, _, _, _, _, As, Es, Ps ++ [⟨xn, xN ns tn, tp⟩], Os, by omega, rfl, by go_num, E10.out, by rw [TK.out]; exact (by have r := LL.out.addI (x := ⟨3, xn, xt, nu, ⟨fn, fp, fa⟩, ⟨tn, tp, ta⟩, pl⟩) rfl; rw [HLU.out] at r; exact r)⟩
   go_upto_region 16 with fail
   generalize wr.alloc (.cells #[.int .u8 4, .string (zW xn), .string (zW xt), .slice qa qn qc, .string (zW fn), .int .i64 fp, .int .i64 fa, .string (zW tn), .int .i64 tp, .int .i64 ta, .int .i64 pl] 45) = V at *
   clear c0 c1 c2 c3 c4 c5 c6 c7 c8 c9 c10
   refine zP 14 (fun i u v => match i with
    | 0 => v = .pointer (some ⟨w.heap.size + 2, 4, none⟩)
    | 1 => v = .slice x4 Os.length d4
    | 2 => v = .pointer (some ⟨wr.heap.size, 1, none⟩)
    | 3 => v = .string (zW xn)
    | 4 => v = .map (some m)
    | 5 => v = .pointer (some ⟨wr.heap.size, 4, none⟩)
    | 6 => v = .pointer (some ⟨wr.heap.size, 4, none⟩)
    | 7 => v = .string (zW fn)
    | 8 => v = .int .i64 (xN ns fn)
    | 9 => v = .pointer (some ⟨wr.heap.size, 4, none⟩)
    | 10 => v = .pointer (some ⟨wr.heap.size, 5, none⟩)
    | 11 => v = .int .i64 fp
    | 12 => v = .agg #[.string (zW xn), .int .i64 (xN ns fn), .int .i64 fp]
    | 13 => qY u ⟨xn, xN ns fn, fp⟩ v
    | _ => True) (by kernel_rfl) (by kernel_rfl) (by kernel_rfl) (by kernel_rfl) ?_ ?_ ?_
   ·intro i w v w' h hb
    match i, h with
    | 0, h => exact h
    | 1, h => exact h
    | 2, h => exact h
    | 3, h => exact h
    | 4, h => exact h
    | 5, h => exact h
    | 6, h => exact h
    | 7, h => exact h
    | 8, h => exact h
    | 9, h => exact h
    | 10, h => exact h
    | 11, h => exact h
    | 12, h => exact h
    | 13, h => exact qY.later h hb
    | _ + 14, _ => trivial
   ·intro i o ρ w' hi ho hb hc hf hfr zY
    have b1 := zX hb bb1
    have b4 := zX hb bb4
    have b5 := zX hb bb5
    have g4 := zX hb gg4
    match i, hi with
    | 0, _ =>
     simp only [qS] at ho
     subst ho
     have ts : ρ (.tmp 3) = .pointer (some ⟨w.heap.size + 2, 0, none⟩) := hfr 3 (by kernel_rfl)
     simp [go_sem, ts]
     exact qB
    | 1, _ =>
     simp only [qS] at ho
     subst ho
     have ts : ρ (.tmp 93) = .pointer (some ⟨w.heap.size + 2, 4, none⟩) := zY 0 93 (by kernel_rfl) (by kernel_rfl)
     simp [go_sem, ts, g4]
     exact qB
    | 2, _ =>
     simp only [qS] at ho
     subst ho
     have ts : ρ (.tmp 6) = .pointer (some ⟨wr.heap.size, 0, none⟩) := hfr 6 (by kernel_rfl)
     simp [go_sem, ts]
     exact qB
    | 3, _ =>
     simp only [qS] at ho
     subst ho
     have ts : ρ (.tmp 95) = .pointer (some ⟨wr.heap.size, 1, none⟩) := zY 2 95 (by kernel_rfl) (by kernel_rfl)
     simp [go_sem, ts, b1]
     exact qB
    | 4, _ =>
     simp only [qS] at ho
     subst ho
     have ts : ρ (.tmp 4) = .map (some m) := hfr 4 (by kernel_rfl)
     simp [go_sem, ts]
     exact qB
    | 5, _ =>
     simp only [qS] at ho
     subst ho
     have ts : ρ (.tmp 6) = .pointer (some ⟨wr.heap.size, 0, none⟩) := hfr 6 (by kernel_rfl)
     simp [go_sem, ts]
     exact qB
    | 6, _ =>
     simp only [qS] at ho
     subst ho
     have ts : ρ (.tmp 98) = .pointer (some ⟨wr.heap.size, 4, none⟩) := zY 5 98 (by kernel_rfl) (by kernel_rfl)
     simp [go_sem, ts]
     exact qB
    | 7, _ =>
     simp only [qS] at ho
     subst ho
     have ts : ρ (.tmp 99) = .pointer (some ⟨wr.heap.size, 4, none⟩) := zY 6 99 (by kernel_rfl) (by kernel_rfl)
     simp [go_sem, ts, b4]
     exact qB
    | 8, _ =>
     simp only [qS] at ho
     subst ho
     have t0 : ρ (.tmp 97) = .map (some m) := zY 4 97 (by kernel_rfl) (by kernel_rfl)
     have t1 : ρ (.tmp 100) = .string (zW fn) := zY 7 100 (by kernel_rfl) (by kernel_rfl)
     simp [go_sem, t0, t1, hf]
     exact ⟨rfl, (NO.out w' hb fn HNfn.out).mono fun e w'' hh => ⟨_, hh.1, hh.2, rfl⟩⟩
    | 9, _ =>
     simp only [qS] at ho
     subst ho
     have ts : ρ (.tmp 6) = .pointer (some ⟨wr.heap.size, 0, none⟩) := hfr 6 (by kernel_rfl)
     simp [go_sem, ts]
     exact qB
    | 10, _ =>
     simp only [qS] at ho
     subst ho
     have ts : ρ (.tmp 102) = .pointer (some ⟨wr.heap.size, 4, none⟩) := zY 9 102 (by kernel_rfl) (by kernel_rfl)
     simp [go_sem, ts]
     exact qB
    | 11, _ =>
     simp only [qS] at ho
     subst ho
     have ts : ρ (.tmp 103) = .pointer (some ⟨wr.heap.size, 5, none⟩) := zY 10 103 (by kernel_rfl) (by kernel_rfl)
     simp [go_sem, ts, b5]
     exact qB
    | 12, _ =>
     simp only [qS] at ho
     subst ho
     have t0 : ρ (.tmp 96) = .string (zW xn) := zY 3 96 (by kernel_rfl) (by kernel_rfl)
     have t1 : ρ (.tmp 101) = .int .i64 (xN ns fn) := zY 8 101 (by kernel_rfl) (by kernel_rfl)
     have t2 : ρ (.tmp 104) = .int .i64 fp := zY 11 104 (by kernel_rfl) (by kernel_rfl)
     simp [go_sem, t0, t1, t2]
     exact qB
    | 13, _ =>
     simp only [qS] at ho
     subst ho
     have t0 : ρ (.tmp 105) = .agg #[.string (zW xn), .int .i64 (xN ns fn), .int .i64 fp] := zY 12 105 (by kernel_rfl) (by kernel_rfl)
     simp [go_sem, t0]
     exact ⟨(Below.refl _ _).alloc (Nat.le_refl _) _, pG w' ⟨xn, xN ns fn, fp⟩⟩
   intro V9 w9 q9 hS
   have e0 : V9 0 = .pointer (some ⟨w.heap.size + 2, 4, none⟩) := hS 0 (by decide)
   have e1 : V9 1 = .slice x4 Os.length d4 := hS 1 (by decide)
   have e2 : V9 2 = .pointer (some ⟨wr.heap.size, 1, none⟩) := hS 2 (by decide)
   have e3 : V9 3 = .string (zW xn) := hS 3 (by decide)
   have e4 : V9 4 = .map (some m) := hS 4 (by decide)
   have e5 : V9 5 = .pointer (some ⟨wr.heap.size, 4, none⟩) := hS 5 (by decide)
   have e6 : V9 6 = .pointer (some ⟨wr.heap.size, 4, none⟩) := hS 6 (by decide)
   have e7 : V9 7 = .string (zW fn) := hS 7 (by decide)
   have e8 : V9 8 = .int .i64 (xN ns fn) := hS 8 (by decide)
   have e9 : V9 9 = .pointer (some ⟨wr.heap.size, 4, none⟩) := hS 9 (by decide)
   have e10 : V9 10 = .pointer (some ⟨wr.heap.size, 5, none⟩) := hS 10 (by decide)
   have e11 : V9 11 = .int .i64 fp := hS 11 (by decide)
   have e12 : V9 12 = .agg #[.string (zW xn), .int .i64 (xN ns fn), .int .i64 fp] := hS 12 (by decide)
   obtain ⟨hx, e13, Q1⟩ : qY w9 ⟨xn, xN ns fn, fp⟩ (V9 13) := hS 13 (by decide)
   simp only [List.drop_succ_cons, List.drop_zero, List.take_succ_cons, List.take_zero, yL, e0, e1, e2, e3, e4, e5, e6, e7, e8, e9, e10, e11, e12, e13]
   clear hS e0 e1 e2 e3 e4 e5 e6 e7 e8 e9 e10 e11 e12 e13 V9
   simp only [Act.put, qU]
   have B5 := zZ q9
   have QC := zZ Q1
   clear q9 Q1 bb0 bb1 bb2 bb3 bb4 bb5 bb6 bb7 bb8 bb9 bb10 gg1 gg2 gg3 gg4 NO
   have HLU : Hid (TX ns ⟨4, xn, xt, nu, ⟨fn, fp, fa⟩, ⟨tn, tp, ta⟩, pl⟩ = ⟨xn, xN ns fn, fp⟩) := by rfl
   go_wp2_with (at_builtin; refine zJ _ rfl (.tmp 94) (.tmp 106) 29 rfl B 83 iP (.agg #[.string ⟨#[]⟩, .int .i64 0, .int .i64 0]) 3 32 Try.underlying29 JP.out JP0.out JP1.out JP2.out rfl (by decide) (.slice x4 Os.length d4) Os.length (Os.flatMap pP) rfl (zS DV.out.r4 B5.out) ⟨hx, 0, none⟩ 1 1 (by decide) (pP ⟨xn, xN ns fn, fp⟩) rfl rfl QC.out (jC _) (by unfold maxLen; omega) (by omega) (Nat.le_trans DV.out.big (B5.out).size) ?_; intro v' w4 ho ht; obtain ⟨D10, bk⟩ := DV.out.put4 B5.out ho ht; obtain ⟨va4, vc4, rfl⟩ := yG ht; have E10 := zZ D10; have s1 : w4.cell? ⟨w.heap.size + 2, 4, none⟩ = some (.slice x4 Os.length d4) := bk.cell rfl; have f1 := bk.frozen 4; clear ho ht D10 bk)
   go_roundg (n - (k + 1))
   case measure => omega
   case rel => exact ⟨k + 1, _, _, _, _, As, Es, Ps, Os ++ [⟨xn, xN ns fn, fp⟩], by omega, rfl, by go_num, E10.out, by rw [TK.out]; exact (by have r := LL.out.addO (x := ⟨4, xn, xt, nu, ⟨fn, fp, fa⟩, ⟨tn, tp, ta⟩, pl⟩) rfl; rw [HLU.out] at r; exact r)⟩
  have hki : ¬ (k : Int) < (n : Int) := by omega
  have s0 : wr.cell? ⟨w.heap.size + 2, 0, none⟩ = some (.string (zW nm)) := DD.out.gb.cell rfl
  have s1 : wr.cell? ⟨w.heap.size + 2, 1, none⟩ = some (.slice x1 As.length d1) := DD.out.gb.cell rfl
  have s2 : wr.cell? ⟨w.heap.size + 2, 2, none⟩ = some (.slice x2 Es.length d2) := DD.out.gb.cell rfl
  have s3 : wr.cell? ⟨w.heap.size + 2, 3, none⟩ = some (.slice x3 Ps.length d3) := DD.out.gb.cell rfl
  have s4 : wr.cell? ⟨w.heap.size + 2, 4, none⟩ = some (.slice x4 Os.length d4) := DD.out.gb.cell rfl
  go_wp2_with (refine zM _ rfl 31 (.tmp 2) (.tmp 110) rfl rfl (w.heap.size + 1) 31 _ _ rfl rfl DD.out.rb qZ rfl rfl ?_; intro w8 hN hU; have N8 := zZ hN; have U8 := zZ hU; clear hN hU)
  have t0 : w8.cell? ⟨w.heap.size + 1, 0, none⟩ = some (.string (zW nm)) := N8.out.cell rfl
  have t1 : w8.cell? ⟨w.heap.size + 1, 1, none⟩ = some (.slice x1 As.length d1) := N8.out.cell rfl
  have t2 : w8.cell? ⟨w.heap.size + 1, 2, none⟩ = some (.slice x2 Es.length d2) := N8.out.cell rfl
  have t3 : w8.cell? ⟨w.heap.size + 1, 3, none⟩ = some (.slice x3 Ps.length d3) := N8.out.cell rfl
  have t4 : w8.cell? ⟨w.heap.size + 1, 4, none⟩ = some (.slice x4 Os.length d4) := N8.out.cell rfl
  refine bodyPost_ret (v := .agg #[.string (zW nm), .slice x1 As.length d1, .slice x2 Es.length d2, .slice x3 Ps.length d3, .slice x4 Os.length d4]) (by simp [results, Try.results15, go_sem, t0, t1, t2, t3, t4]) rfl ?_
  have d := DD.out
  have hs := d.bel.size
  have lo : w.heap.size <= B := Nat.le_trans (Nat.le_trans (Nat.le_add_right _ 2) (Nat.le_of_lt d.hm)) (Nat.le_of_lt d.hB)
  have bl : w.heap.size + 1 < B := Nat.lt_trans (Nat.lt_succ_self _) (Nat.lt_trans d.hm d.hB)
  have kp : ∀ {T c n : Nat} {v : Value} {xs : List Value}, wr.ownsRow B T c v n xs -> w8.ownsRow w.heap.size T c v n xs := fun r => xK (zV r fun k e => U8.out.block k (zR r k e) (fun q => by have := zT r k e; omega)) lo
  refine ⟨_, _, _, _, As, Es, Ps, Os, rfl, ⟨kp d.r1, kp d.r2, kp d.r3, kp d.r4, d.n12, d.n13, d.n14, d.n23, d.n24, d.n34⟩, ?_, d.bel.trans (U8.out.below (Nat.le_succ _) d.bel.size)⟩
  have r := LL.out
  rw [List.take_of_length_le (by rw [List.length_map, HL.out]; omega)] at r
  rw [HNS.out]
  exact r
theorem kA : ∀ (L : List (GA × Value)) (k : Nat) (h : k < L.length) (q : Value), (L.flatMap aP).set (k * 3 + 2) q = (L.set k (L[k].1, q)).flatMap aP
 | [], k, h, _ => by simp at h
 | x :: r, 0, _, q => rfl
 | x :: r, k + 1, h, q => by
  have h' : k < r.length := by simp at h; omega
  have e := kA r k h' q
  have e0 : (k + 1) * 3 + 2 = (k * 3 + 2) + 3 := by omega
  rw [List.flatMap_cons, e0]
  show _ = ((x :: r.set k (r[k].1, q)).flatMap aP)
  rw [List.flatMap_cons, <- e]
  rfl
theorem jZ : ∀ (L : List (GE × Value)) (k : Nat) (h : k < L.length) (q : Value), (L.flatMap eP).set (k * 5 + 4) q = (L.set k (L[k].1, q)).flatMap eP
 | [], k, h, _ => by simp at h
 | x :: r, 0, _, q => rfl
 | x :: r, k + 1, h, q => by
  have h' : k < r.length := by simp at h; omega
  have e := jZ r k h' q
  have e0 : (k + 1) * 5 + 4 = (k * 5 + 4) + 5 := by omega
  rw [List.flatMap_cons, e0]
  show _ = ((x :: r.set k (r[k].1, q)).flatMap eP)
  rw [List.flatMap_cons, <- e]
  rfl
theorem rG {α : Type} (L : List α) {k : Nat} (h : k < L.length) (x : α) : (L.set k x).take (k + 1) = L.take k ++ [x] := by
 rw [List.take_add_one, List.getElem?_set_self h, List.take_set_of_le (Nat.le_refl _)]
 rfl
theorem jY {α : Type} (L : List α) (k : Nat) (x : α) : (L.set k x).drop (k + 1) = L.drop (k + 1) := List.drop_set_of_lt (Nat.lt_succ_self _)
theorem gP {α : Type} {L : List (α × Value)} {k : Nat} (h : k < L.length) (q : Value) : (L.set k (L[k].1, q)).map Prod.fst = L.map Prod.fst := by
 rw [List.map_set]
 have : (L.map Prod.fst)[k]'(by rw [List.length_map]; exact h) = L[k].1 := List.getElem_map _
 show (L.map Prod.fst).set k L[k].1 = _
 rw [<- this, List.set_getElem_self]
theorem gO {l : List Value} {q : Value} {N : Nat} (h : l.Pairwise NB) (hl : ∀ v ∈ l, ∀ k, v.ownBlock = some k -> k < N) (hq : ∀ k, q.ownBlock = some k -> N <= k) : (l ++ [q]).Pairwise NB := by
 rw [List.pairwise_append]
 refine ⟨h, List.pairwise_singleton _ _, fun a ha b hb => ?_⟩
 rw [List.mem_singleton.1 hb]
 exact fun k h1 h2 => absurd (hl a ha k h1) (by have := hq k h2; omega)
structure sQ (B : Nat) (w : World) (v1 v2 v3 v4 : Value) (As : List (GA × Value)) (Es : List (GE × Value)) (Ps Os : List GP) : Prop where
 rw : kU B w v1 v2 v3 v4 As Es Ps Os
 n1 : ∀ p ∈ As, yC B w p.2 p.1.params
 n2 : ∀ p ∈ Es, yC B w p.2 p.1.start
 ap : (As.map Prod.snd ++ Es.map Prod.snd).Pairwise NB
 av : ∀ q ∈ As.map Prod.snd ++ Es.map Prod.snd, NB v1 q /\ NB v2 q /\ NB v3 q /\ NB v4 q
theorem kU.keep {B w w' v1 v2 v3 v4 As Es Ps Os} (h : kU B w v1 v2 v3 v4 As Es Ps Os) (hk : ∀ k, B <= k -> k < w.heap.size -> w'.heap[k]? = w.heap[k]?) : kU B w' v1 v2 v3 v4 As Es Ps Os :=
 ⟨zV h.r1 fun k e => hk k (zT h.r1 k e) (zR h.r1 k e), zV h.r2 fun k e => hk k (zT h.r2 k e) (zR h.r2 k e), zV h.r3 fun k e => hk k (zT h.r3 k e) (zR h.r3 k e), zV h.r4 fun k e => hk k (zT h.r4 k e) (zR h.r4 k e), h.n12, h.n13, h.n14, h.n23, h.n24, h.n34⟩
theorem sQ.keep {B w w' v1 v2 v3 v4 As Es Ps Os} (h : sQ B w v1 v2 v3 v4 As Es Ps Os) (hk : ∀ k, B <= k -> k < w.heap.size -> w'.heap[k]? = w.heap[k]?) : sQ B w' v1 v2 v3 v4 As Es Ps Os :=
 ⟨h.rw.keep hk, fun p hp => zV (h.n1 p hp) fun k e => hk k (zT (h.n1 p hp) k e) (zR (h.n1 p hp) k e), fun p hp => zV (h.n2 p hp) fun k e => hk k (zT (h.n2 p hp) k e) (zR (h.n2 p hp) k e), h.ap, h.av⟩
theorem kU.mono {B B' w v1 v2 v3 v4 As Es Ps Os} (h : kU B w v1 v2 v3 v4 As Es Ps Os) (hb : B' <= B) : kU B' w v1 v2 v3 v4 As Es Ps Os :=
 ⟨xK h.r1 hb, xK h.r2 hb, xK h.r3 hb, xK h.r4 hb, h.n12, h.n13, h.n14, h.n23, h.n24, h.n34⟩
theorem sQ.mono {B B' w v1 v2 v3 v4 As Es Ps Os} (h : sQ B w v1 v2 v3 v4 As Es Ps Os) (hb : B' <= B) : sQ B' w v1 v2 v3 v4 As Es Ps Os :=
 ⟨h.rw.mono hb, fun p hp => (h.n1 p hp).mono hb, fun p hp => (h.n2 p hp).mono hb, h.ap, h.av⟩
structure dG (w0 w : World) (nm : List UInt8) (v1 v2 v3 v4 : Value) (A0 : List (GA × Value)) (E0 : List (GE × Value)) (Ps Os : List GP) (ka ke : Nat) (As : List (GA × Value)) (Es : List (GE × Value)) (wr : World) : Prop where
 gb : zN 31 w.heap.size wr #[.string (zW nm), v1, v2, v3, v4]
 rb : zN 31 (w.heap.size + 1) wr #[.string ⟨#[]⟩, .slice none 0 0, .slice none 0 0, .slice none 0 0, .slice none 0 0]
 rw : kU w0.heap.size wr v1 v2 v3 v4 As Es Ps Os
 fa : As.map Prod.fst = A0.map Prod.fst
 fe : Es.map Prod.fst = E0.map Prod.fst
 da : As.drop ka = A0.drop ka
 de : Es.drop ke = E0.drop ke
 na : ∀ p ∈ As.take ka, yC (w.heap.size + 2) wr p.2 p.1.params
 ne : ∀ p ∈ Es.take ke, yC (w.heap.size + 2) wr p.2 p.1.start
 ap : ((As.take ka).map Prod.snd ++ (Es.take ke).map Prod.snd).Pairwise NB
 bel : Below w0.heap.size w0 wr
 l1 : ∀ k, v1.ownBlock = some k -> k < w.heap.size
 l2 : ∀ k, v2.ownBlock = some k -> k < w.heap.size
 l3 : ∀ k, v3.ownBlock = some k -> k < w.heap.size
 l4 : ∀ k, v4.ownBlock = some k -> k < w.heap.size
 big : w.heap.size + 2 <= wr.heap.size
 lo : w0.heap.size <= w.heap.size
theorem dG.below {w0 w nm v1 v2 v3 v4 A0 E0 Ps Os ka ke As Es} {wr w2 : World} (h : dG w0 w nm v1 v2 v3 v4 A0 E0 Ps Os ka ke As Es wr) (hb : Below wr.heap.size wr w2) : dG w0 w nm v1 v2 v3 v4 A0 E0 Ps Os ka ke As Es w2 :=
 ⟨h.gb.below hb, h.rb.below hb, h.rw.keep fun k _ hk => hb.block k hk, h.fa, h.fe, h.da, h.de, fun p hp => (h.na p hp).below hb, fun p hp => (h.ne p hp).below hb, h.ap, h.bel.trans (hb.mono h.bel.size), h.l1, h.l2, h.l3, h.l4, Nat.le_trans h.big hb.size, h.lo⟩
theorem dG.putA {w0 w nm v2 v1 v3 v4 A0 E0 Ps Os ka ke As Es} {V w2 : World} {g n cp : Nat} (h : dG w0 w nm v1 v2 v3 v4 A0 E0 Ps Os ka ke As Es V) (hv : v1 = .slice (some ⟨g, 0, none⟩) n cp) (hke : ke = 0) (hk : ka < As.length) (hb : Below V.heap.size V w2) {q : Value} (hq : yC V.heap.size w2 q As[ka].1.params) :
 dG w0 w nm v1 v2 v3 v4 A0 E0 Ps Os (ka + 1) ke (As.set ka (As[ka].1, q)) Es (w2.setCell ⟨g, ka * 3 + 2, none⟩ q) := by
 have hbig := h.big
 have hlo := h.lo
 have hgl : g < w.heap.size := h.l1 g (by rw [hv]; rfl)
 have hg0 : w0.heap.size <= g := zT h.rw.r1 g (by rw [hv]; rfl)
 have hsz := hb.size
 have set : ∀ k, k ≠ g -> (w2.setCell ⟨g, ka * 3 + 2, none⟩ q).heap[k]? = w2.heap[k]? := fun k hk => Below.heap_setCell w2 ⟨g, ka * 3 + 2, none⟩ q k hk
 have kp : ∀ k, k < V.heap.size -> k ≠ g -> (w2.setCell ⟨g, ka * 3 + 2, none⟩ q).heap[k]? = V.heap[k]? := fun k h1 h2 => (set k h2).trans (hb.block k h1)
 have st : ∀ {T c n : Nat} {u : Value} {xs : List Value}, V.ownsRow w0.heap.size T c u n xs -> NB v1 u -> (w2.setCell ⟨g, ka * 3 + 2, none⟩ q).ownsRow w0.heap.size T c u n xs := fun ru nb => zV ru fun k e => kp k (zR ru k e) (fun e2 => nb g (by rw [hv]; rfl) (by rw [<- e2]; exact e))
 have rI : (w2.setCell ⟨g, ka * 3 + 2, none⟩ q).ownsRow w0.heap.size 61 3 v1 (As.set ka (As[ka].1, q)).length ((As.set ka (As[ka].1, q)).flatMap aP) := by
  have r0 := zS h.rw.r1 hb
  have hn : n = As.length := by
   obtain ⟨a', c', e⟩ := zC r0
   rw [hv] at e
   cases e
   rfl
  subst hn
  rw [hv] at r0 ⊢
  have r1 := (World.ownsRow.stored r0 (ka * 3 + 2) q).1
  rw [kA As ka hk q] at r1
  rw [List.length_set]
  exact r1
 have nk : ∀ {u : Value} {ns : List Int}, yC (w.heap.size + 2) V u ns -> yC (w.heap.size + 2) (w2.setCell ⟨g, ka * 3 + 2, none⟩ q) u ns := fun hu => zV hu fun k e => kp k (zR hu k e) (fun e2 => by have := zT hu k e; omega)
 have hq2 : yC (w.heap.size + 2) (w2.setCell ⟨g, ka * 3 + 2, none⟩ q) q As[ka].1.params := yC.mono (zV hq fun k e => set k (fun e2 => by have := zT hq k e; omega)) hbig
 have nI : ∀ p ∈ (As.set ka (As[ka].1, q)).take (ka + 1), yC (w.heap.size + 2) (w2.setCell ⟨g, ka * 3 + 2, none⟩ q) p.2 p.1.params := fun p hp => by
  rw [rG As hk] at hp
  rcases List.mem_append.1 hp with hp | hp
  ·exact nk (h.na p hp)
  rw [List.mem_singleton.1 hp]; exact hq2
 have da : (As.set ka (As[ka].1, q)).drop (ka + 1) = A0.drop (ka + 1) := by
  rw [jY, <- List.drop_drop, h.da, List.drop_drop]
 refine ⟨h.gb.keep (kp _ (by omega) (by omega)), h.rb.keep (kp _ (by omega) (by omega)), ⟨rI, (st h.rw.r2 h.rw.n12), (st h.rw.r3 h.rw.n13), (st h.rw.r4 h.rw.n14), h.rw.n12, h.rw.n13, h.rw.n14, h.rw.n23, h.rw.n24, h.rw.n34⟩, (gP hk q).trans h.fa, h.fe, da, h.de, nI, fun p hp => nk (h.ne p hp), ?_, ?_, h.l1, h.l2, h.l3, h.l4, by rw [World.size_setCell]; omega, h.lo⟩
 ·have hl : ∀ v ∈ (As.take ka).map Prod.snd ++ (Es.take ke).map Prod.snd, ∀ k, v.ownBlock = some k -> k < V.heap.size := fun v hv k e => by
   rcases List.mem_append.1 hv with hv | hv
   ·obtain ⟨p, hp, rfl⟩ := List.mem_map.1 hv; exact zR (h.na p hp) k e
   obtain ⟨p, hp, rfl⟩ := List.mem_map.1 hv; exact zR (h.ne p hp) k e
  have r := gO h.ap hl (fun k e => zT hq k e)
  subst hke
  rw [rG As hk, List.map_append]
  simp only [List.take_zero, List.map_nil, List.append_nil] at r ⊢
  exact r
 have h1 : Below w0.heap.size w0 w2 := h.bel.trans (hb.mono h.bel.size)
 exact h1.setCell (p := ⟨g, ka * 3 + 2, none⟩) hg0 _
theorem dG.putE {w0 w nm v2 v1 v3 v4 A0 E0 Ps Os ka ke As Es} {V w2 : World} {g n cp : Nat} (h : dG w0 w nm v1 v2 v3 v4 A0 E0 Ps Os ka ke As Es V) (hv : v2 = .slice (some ⟨g, 0, none⟩) n cp)  (hk : ke < Es.length) (hb : Below V.heap.size V w2) {q : Value} (hq : yC V.heap.size w2 q Es[ke].1.start) :
 dG w0 w nm v1 v2 v3 v4 A0 E0 Ps Os ka (ke + 1) As (Es.set ke (Es[ke].1, q)) (w2.setCell ⟨g, ke * 5 + 4, none⟩ q) := by
 have hbig := h.big
 have hlo := h.lo
 have hgl : g < w.heap.size := h.l2 g (by rw [hv]; rfl)
 have hg0 : w0.heap.size <= g := zT h.rw.r2 g (by rw [hv]; rfl)
 have hsz := hb.size
 have set : ∀ k, k ≠ g -> (w2.setCell ⟨g, ke * 5 + 4, none⟩ q).heap[k]? = w2.heap[k]? := fun k hk => Below.heap_setCell w2 ⟨g, ke * 5 + 4, none⟩ q k hk
 have kp : ∀ k, k < V.heap.size -> k ≠ g -> (w2.setCell ⟨g, ke * 5 + 4, none⟩ q).heap[k]? = V.heap[k]? := fun k h1 h2 => (set k h2).trans (hb.block k h1)
 have st : ∀ {T c n : Nat} {u : Value} {xs : List Value}, V.ownsRow w0.heap.size T c u n xs -> NB v2 u -> (w2.setCell ⟨g, ke * 5 + 4, none⟩ q).ownsRow w0.heap.size T c u n xs := fun ru nb => zV ru fun k e => kp k (zR ru k e) (fun e2 => nb g (by rw [hv]; rfl) (by rw [<- e2]; exact e))
 have rI : (w2.setCell ⟨g, ke * 5 + 4, none⟩ q).ownsRow w0.heap.size 64 5 v2 (Es.set ke (Es[ke].1, q)).length ((Es.set ke (Es[ke].1, q)).flatMap eP) := by
  have r0 := zS h.rw.r2 hb
  have hn : n = Es.length := by
   obtain ⟨a', c', e⟩ := zC r0
   rw [hv] at e
   cases e
   rfl
  subst hn
  rw [hv] at r0 ⊢
  have r1 := (World.ownsRow.stored r0 (ke * 5 + 4) q).1
  rw [jZ Es ke hk q] at r1
  rw [List.length_set]
  exact r1
 have nk : ∀ {u : Value} {ns : List Int}, yC (w.heap.size + 2) V u ns -> yC (w.heap.size + 2) (w2.setCell ⟨g, ke * 5 + 4, none⟩ q) u ns := fun hu => zV hu fun k e => kp k (zR hu k e) (fun e2 => by have := zT hu k e; omega)
 have hq2 : yC (w.heap.size + 2) (w2.setCell ⟨g, ke * 5 + 4, none⟩ q) q Es[ke].1.start := yC.mono (zV hq fun k e => set k (fun e2 => by have := zT hq k e; omega)) hbig
 have nI : ∀ p ∈ (Es.set ke (Es[ke].1, q)).take (ke + 1), yC (w.heap.size + 2) (w2.setCell ⟨g, ke * 5 + 4, none⟩ q) p.2 p.1.start := fun p hp => by
  rw [rG Es hk] at hp
  rcases List.mem_append.1 hp with hp | hp
  ·exact nk (h.ne p hp)
  rw [List.mem_singleton.1 hp]; exact hq2
 have da : (Es.set ke (Es[ke].1, q)).drop (ke + 1) = E0.drop (ke + 1) := by
  rw [jY, <- List.drop_drop, h.de, List.drop_drop]
 refine ⟨h.gb.keep (kp _ (by omega) (by omega)), h.rb.keep (kp _ (by omega) (by omega)), ⟨(st h.rw.r1 h.rw.n12.symm), rI, (st h.rw.r3 h.rw.n23), (st h.rw.r4 h.rw.n24), h.rw.n12, h.rw.n13, h.rw.n14, h.rw.n23, h.rw.n24, h.rw.n34⟩, h.fa, (gP hk q).trans h.fe, h.da, da, fun p hp => nk (h.na p hp), nI, ?_, ?_, h.l1, h.l2, h.l3, h.l4, by rw [World.size_setCell]; omega, h.lo⟩
 ·have hl : ∀ v ∈ (As.take ka).map Prod.snd ++ (Es.take ke).map Prod.snd, ∀ k, v.ownBlock = some k -> k < V.heap.size := fun v hv k e => by
   rcases List.mem_append.1 hv with hv | hv
   ·obtain ⟨p, hp, rfl⟩ := List.mem_map.1 hv; exact zR (h.na p hp) k e
   obtain ⟨p, hp, rfl⟩ := List.mem_map.1 hv; exact zR (h.ne p hp) k e
  have r := gO h.ap hl (fun k e => zT hq k e)
  rw [rG Es hk, List.map_append, <- List.append_assoc]
  exact r
 have h1 : Below w0.heap.size w0 w2 := h.bel.trans (hb.mono h.bel.size)
 exact h1.setCell (p := ⟨g, ke * 5 + 4, none⟩) hg0 _
def OwnE (w0 : World) (nm : List UInt8) (v1 v2 v3 v4 : Value) (A0 : List (GA × Value)) (E0 : List (GE × Value)) (Ps Os : List GP) (e : Ending) (w' : World) : Prop :=
 ∃ As Es, e = .returned (.agg #[.string (zW nm), v1, v2, v3, v4]) /\ sQ w0.heap.size w' v1 v2 v3 v4 As Es Ps Os /\ As.map Prod.fst = A0.map Prod.fst /\ Es.map Prod.fst = E0.map Prod.fst /\ Below w0.heap.size w0 w'
theorem jB (nm : List UInt8) (v1 v2 v3 v4 : Value) (A0 : List (GA × Value)) (E0 : List (GE × Value)) (Ps Os : List GP) (w0 w : World) (hb : Below w0.heap.size w0 w) (hG : kU w0.heap.size w v1 v2 v3 v4 A0 E0 Ps Os) (pa : ∀ p ∈ A0, TW w0 p) (pe : ∀ p ∈ E0, TV w0 p) (na : A0.length <= 1000) (ne : E0.length <= 1000) :
 Calls Try.prog 18 #[.agg #[.string (zW nm), v1, v2, v3, v4]] w (OwnE w0 nm v1 v2 v3 v4 A0 E0 Ps Os) := by
 obtain ⟨x1, d1, rfl⟩ := zC hG.r1
 obtain ⟨x2, d2, rfl⟩ := zC hG.r2
 obtain ⟨x3, d3, rfl⟩ := zC hG.r3
 obtain ⟨x4, d4, rfl⟩ := zC hG.r4
 have D0 : Hid (dG w0 w nm (.slice x1 A0.length d1) (.slice x2 E0.length d2) (.slice x3 Ps.length d3) (.slice x4 Os.length d4) A0 E0 Ps Os 0 0 A0 E0 ((w.alloc (.cells #[.string (zW nm), .slice x1 A0.length d1, .slice x2 E0.length d2, .slice x3 Ps.length d3, .slice x4 Os.length d4] 31)).alloc (.cells #[.string ⟨#[]⟩, .slice none 0 0, .slice none 0 0, .slice none 0 0, .slice none 0 0] 31))) := by
  have ba := ((Below.refl w.heap.size w).alloc (Nat.le_refl _) (.cells #[.string (zW nm), .slice x1 A0.length d1, .slice x2 E0.length d2, .slice x3 Ps.length d3, .slice x4 Os.length d4] 31)).alloc (by simp) (.cells #[.string ⟨#[]⟩, .slice none 0 0, .slice none 0 0, .slice none 0 0, .slice none 0 0] 31)
  have rb : zN 31 (w.heap.size + 1) ((w.alloc (.cells #[.string (zW nm), .slice x1 A0.length d1, .slice x2 E0.length d2, .slice x3 Ps.length d3, .slice x4 Os.length d4] 31)).alloc (.cells #[.string ⟨#[]⟩, .slice none 0 0, .slice none 0 0, .slice none 0 0, .slice none 0 0] 31)) #[.string ⟨#[]⟩, .slice none 0 0, .slice none 0 0, .slice none 0 0, .slice none 0 0] := by
   have h3 := zU 31 (w.alloc (.cells #[.string (zW nm), .slice x1 A0.length d1, .slice x2 E0.length d2, .slice x3 Ps.length d3, .slice x4 Os.length d4] 31)) #[.string ⟨#[]⟩, .slice none 0 0, .slice none 0 0, .slice none 0 0, .slice none 0 0]
   rw [World.size_alloc] at h3
   exact h3
  exact ⟨(zU 31 w #[.string (zW nm), .slice x1 A0.length d1, .slice x2 E0.length d2, .slice x3 Ps.length d3, .slice x4 Os.length d4]).below ((Below.refl _ _).alloc (Nat.le_refl _) (.cells #[.string ⟨#[]⟩, .slice none 0 0, .slice none 0 0, .slice none 0 0, .slice none 0 0] 31)), rb, hG.keep fun k _ hk => ba.block k hk, rfl, rfl, rfl, rfl, fun p hp => (by simp at hp), fun p hp => (by simp at hp), List.Pairwise.nil, hb.trans (ba.mono hb.size), zR hG.r1, zR hG.r2, zR hG.r3, zR hG.r4, by simp, hb.size⟩
 have PA := zZ pa
 have PE := zZ pe
 have naI : (A0.length : Int) <= 1000 := by omega
 have neI : (E0.length : Int) <= 1000 := by omega
 clear pa pe hG hb
 go_enter Try.func18, Try.ntmps18
 go_upto_region 1 with fail
 generalize (w.alloc (.cells #[.string (zW nm), .slice x1 A0.length d1, .slice x2 E0.length d2, .slice x3 Ps.length d3, .slice x4 Os.length d4] 31)).alloc (.cells #[.string ⟨#[]⟩, .slice none 0 0, .slice none 0 0, .slice none 0 0, .slice none 0 0] 31) = W0 at *
 have y1 : W0.cell? ⟨w.heap.size, 1, none⟩ = some (.slice x1 A0.length d1) := D0.out.gb.cell rfl
 go_wp2
 go_loopg [8] A0.length (fun gk v wr => ∃ (k : Nat) (As : List (GA × Value)) (Es : List (GE × Value)), k <= A0.length /\ gk = A0.length - k /\ v = .int .i64 (k : Int) /\ dG w0 w nm (.slice x1 A0.length d1) (.slice x2 E0.length d2) (.slice x3 Ps.length d3) (.slice x4 Os.length d4) A0 E0 Ps Os k 0 As Es wr)
 case atStart => exact ⟨0, A0, E0, Nat.zero_le _, rfl, rfl, D0.out⟩
 case round =>
  clear D0 y1
  obtain ⟨k, As, Es, hk, rfl, rfl, hD⟩ := hrel
  have DD := zZ hD
  have g1 : wr.cell? ⟨w.heap.size, 1, none⟩ = some (.slice x1 A0.length d1) := hD.gb.cell rfl
  clear hD
  by_cases hlt : k < A0.length
  ·have hki : (k : Int) < (A0.length : Int) := by omega
   have hkL : k < As.length := by have e := congrArg List.length DD.out.fa; rw [List.length_map, List.length_map] at e; omega
   have r0 := DD.out.rw.r1
   obtain ⟨gb, hgb, hlow, -⟩ := tJ r0 (by omega)
   subst hgb
   have el : As.length = A0.length := by have e := congrArg List.length DD.out.fa; rw [List.length_map, List.length_map] at e; exact e
   have hel : As[k] = A0[k] := by
    have e := DD.out.da
    rw [List.drop_eq_getElem_cons hkL, List.drop_eq_getElem_cons hlt] at e
    exact (List.cons.inj e).1
   have hpar := PA.out A0[k] (List.getElem_mem hlt)
   rw [<- hel] at hpar
   obtain ⟨_, qa, qc, hq, hqa⟩ := hpar
   have q1 := xY sA r0 hkL (r := 2) (by decide) (u := .slice qa As[k].1.params.length qc) (by rw [<- hq]; rfl)
   have HQA := zZ hqa
   have HPUT : Hid (∀ w2 q, Below wr.heap.size wr w2 -> yC wr.heap.size w2 q As[k].1.params -> dG w0 w nm (.slice (some ⟨gb, 0, none⟩) A0.length d1) (.slice x2 E0.length d2) (.slice x3 Ps.length d3) (.slice x4 Os.length d4) A0 E0 Ps Os (k + 1) 0 (As.set k (As[k].1, q)) Es (w2.setCell ⟨gb, k * 3 + 2, none⟩ q)) := fun w2 q hb hq => DD.out.putA rfl rfl hkL hb hq
   have HRC : Hid (∀ w2, Below wr.heap.size wr w2 -> w2.cell? ⟨gb, k * 3 + 2, none⟩ = some (.slice qa As[k].1.params.length qc) /\ w2.frozen? ⟨gb, k * 3 + 2, none⟩ = false) := fun w2 hb => ⟨zX hb q1, by
    have r2 := zS r0 hb
    rw [el] at r2
    exact World.ownsRow.frozenAt r2 _⟩
   generalize hzs : As[k].1.params = zs at *
   have CO : Hid (∀ U, Below wr.heap.size wr U -> Calls Try.prog 44 #[.slice qa zs.length qc] U (uE U zs.length zs)) := fun U hb => sS qa zs zs.length qc U ((HQA.out.below (DD.out.bel.mono (Nat.le_refl _))).below hb)
   clear r0 hel hq hqa hlow hzs el
   go_upto_region 4 with fail
   refine zP 10 (fun i u v => match i with
    | 0 => v = .pointer (some ⟨w.heap.size, 1, none⟩)
    | 1 => v = .slice (some ⟨gb, 0, none⟩) A0.length d1
    | 2 => v = .int .i64 (k : Int)
    | 3 => v = .pointer (some ⟨w.heap.size, 1, none⟩)
    | 4 => v = .slice (some ⟨gb, 0, none⟩) A0.length d1
    | 5 => v = .int .i64 (k : Int)
    | 6 => v = .pointer (some ⟨gb, k * 3, none⟩)
    | 7 => v = .pointer (some ⟨gb, k * 3 + 2, none⟩)
    | 8 => v = .slice qa zs.length qc
    | 9 => uG wr zs u v
    | _ => True) (by kernel_rfl) (by kernel_rfl) (by kernel_rfl) (by kernel_rfl) ?_ ?_ ?_
   ·intro i w v w' h hb
    match i, h with
    | 0, h => exact h
    | 1, h => exact h
    | 2, h => exact h
    | 3, h => exact h
    | 4, h => exact h
    | 5, h => exact h
    | 6, h => exact h
    | 7, h => exact h
    | 8, h => exact h
    | 9, h => exact uG.later h hb
    | _ + 10, _ => trivial
   ·intro i o ρ w' hi ho hb hc hf hfr zY
    have g1 := zX hb g1
    have q1 := zX hb q1
    match i, hi with
    | 0, _ =>
     simp only [qS] at ho
     subst ho
     have ts : ρ (.tmp 1) = .pointer (some ⟨w.heap.size, 0, none⟩) := hfr 1 (by kernel_rfl)
     simp [go_sem, ts]
     exact qB
    | 1, _ =>
     simp only [qS] at ho
     subst ho
     have ts : ρ (.tmp 11) = .pointer (some ⟨w.heap.size, 1, none⟩) := zY 0 11 (by kernel_rfl) (by kernel_rfl)
     simp [go_sem, ts, g1]
     exact qB
    | 2, _ =>
     simp only [qS] at ho
     subst ho
     have ts : ρ (.tmp 3) = .int .i64 (k : Int) := hfr 3 (by kernel_rfl)
     simp [go_sem, ts]
     exact qB
    | 3, _ =>
     simp only [qS] at ho
     subst ho
     have ts : ρ (.tmp 1) = .pointer (some ⟨w.heap.size, 0, none⟩) := hfr 1 (by kernel_rfl)
     simp [go_sem, ts]
     exact qB
    | 4, _ =>
     simp only [qS] at ho
     subst ho
     have ts : ρ (.tmp 14) = .pointer (some ⟨w.heap.size, 1, none⟩) := zY 3 14 (by kernel_rfl) (by kernel_rfl)
     simp [go_sem, ts, g1]
     exact qB
    | 5, _ =>
     simp only [qS] at ho
     subst ho
     have ts : ρ (.tmp 3) = .int .i64 (k : Int) := hfr 3 (by kernel_rfl)
     simp [go_sem, ts]
     exact qB
    | 6, _ =>
     simp only [qS] at ho
     subst ho
     have t0 : ρ (.tmp 15) = .slice (some ⟨gb, 0, none⟩) A0.length d1 := zY 4 15 (by kernel_rfl) (by kernel_rfl)
     have t1 : ρ (.tmp 16) = .int .i64 (k : Int) := zY 5 16 (by kernel_rfl) (by kernel_rfl)
     simp [go_sem, t0, t1, hki]
     exact qB
    | 7, _ =>
     simp only [qS] at ho
     subst ho
     have ts : ρ (.tmp 17) = .pointer (some ⟨gb, k * 3, none⟩) := zY 6 17 (by kernel_rfl) (by kernel_rfl)
     simp [go_sem, ts]
     exact qB
    | 8, _ =>
     simp only [qS] at ho
     subst ho
     have ts : ρ (.tmp 18) = .pointer (some ⟨gb, k * 3 + 2, none⟩) := zY 7 18 (by kernel_rfl) (by kernel_rfl)
     simp [go_sem, ts, q1]
     exact qB
    | 9, _ =>
     simp only [qS] at ho
     subst ho
     have ts : ρ (.tmp 19) = .slice qa zs.length qc := zY 8 19 (by kernel_rfl) (by kernel_rfl)
     simp [go_sem, ts, hf]
     exact ⟨rfl, (CO.out w' hb).mono fun e w'' hh => nL hh hb.size⟩
   intro V9 w9 q9 hS
   have e0 : V9 0 = .pointer (some ⟨w.heap.size, 1, none⟩) := hS 0 (by decide)
   have e1 : V9 1 = .slice (some ⟨gb, 0, none⟩) A0.length d1 := hS 1 (by decide)
   have e2 : V9 2 = .int .i64 (k : Int) := hS 2 (by decide)
   have e3 : V9 3 = .pointer (some ⟨w.heap.size, 1, none⟩) := hS 3 (by decide)
   have e4 : V9 4 = .slice (some ⟨gb, 0, none⟩) A0.length d1 := hS 4 (by decide)
   have e5 : V9 5 = .int .i64 (k : Int) := hS 5 (by decide)
   have e6 : V9 6 = .pointer (some ⟨gb, k * 3, none⟩) := hS 6 (by decide)
   have e7 : V9 7 = .pointer (some ⟨gb, k * 3 + 2, none⟩) := hS 7 (by decide)
   have e8 : V9 8 = .slice qa zs.length qc := hS 8 (by decide)
   obtain ⟨ca, cc, e9, Q1⟩ : uG wr zs w9 (V9 9) := hS 9 (by decide)
   simp only [List.drop_succ_cons, List.drop_zero, List.take_succ_cons, List.take_zero, yL, e0, e1, e2, e3, e4, e5, e6, e7, e8, e9]
   clear hS e0 e1 e2 e3 e4 e5 e6 e7 e8 e9 V9
   simp only [Act.put, qU]
   have E10 := zZ (HPUT.out w9 (.slice ca zs.length cc) q9 Q1)
   obtain ⟨s1, f1⟩ := HRC.out w9 q9
   clear q9 Q1 q1 HPUT HRC CO
   go_wp2
   go_roundg (A0.length - (k + 1))
   case measure => omega
   case rel => exact ⟨k + 1, _, _, by omega, rfl, by go_num, E10.out⟩
  have hki : ¬ (k : Int) < (A0.length : Int) := by omega
  have ek : k = A0.length := by omega
  subst ek
  have y2 : wr.cell? ⟨w.heap.size, 2, none⟩ = some (.slice x2 E0.length d2) := DD.out.gb.cell rfl
  go_wp2
  go_loopg [27] E0.length (fun gk v wr => ∃ (k : Nat) (As : List (GA × Value)) (Es : List (GE × Value)), k <= E0.length /\ gk = E0.length - k /\ v = .int .i64 (k : Int) /\ dG w0 w nm (.slice x1 A0.length d1) (.slice x2 E0.length d2) (.slice x3 Ps.length d3) (.slice x4 Os.length d4) A0 E0 Ps Os A0.length k As Es wr)
  case atStart => exact ⟨0, As, Es, Nat.zero_le _, rfl, rfl, DD.out⟩
  case round =>
   clear DD
   obtain ⟨k, As, Es, hk, rfl, rfl, hD⟩ := hrel
   have DD := zZ hD
   have g1 : wr.cell? ⟨w.heap.size, 2, none⟩ = some (.slice x2 E0.length d2) := hD.gb.cell rfl
   clear hD
   by_cases hlt : k < E0.length
   ·have hki : (k : Int) < (E0.length : Int) := by omega
    have hkL : k < Es.length := by have e := congrArg List.length DD.out.fe; rw [List.length_map, List.length_map] at e; omega
    have r0 := DD.out.rw.r2
    obtain ⟨gb, hgb, hlow, -⟩ := tJ r0 (by omega)
    subst hgb
    have el : Es.length = E0.length := by have e := congrArg List.length DD.out.fe; rw [List.length_map, List.length_map] at e; exact e
    have hel : Es[k] = E0[k] := by
     have e := DD.out.de
     rw [List.drop_eq_getElem_cons hkL, List.drop_eq_getElem_cons hlt] at e
     exact (List.cons.inj e).1
    have hpar := PE.out E0[k] (List.getElem_mem hlt)
    rw [<- hel] at hpar
    obtain ⟨qa, qc, hq, hqa⟩ := hpar
    have q1 := xY tQ r0 hkL (r := 4) (by decide) (u := .slice qa Es[k].1.start.length qc) (by rw [<- hq]; rfl)
    have HQA := zZ hqa
    have HPUT : Hid (∀ w2 q, Below wr.heap.size wr w2 -> yC wr.heap.size w2 q Es[k].1.start -> dG w0 w nm (.slice x1 A0.length d1) (.slice (some ⟨gb, 0, none⟩) E0.length d2) (.slice x3 Ps.length d3) (.slice x4 Os.length d4) A0 E0 Ps Os A0.length (k + 1) As (Es.set k (Es[k].1, q)) (w2.setCell ⟨gb, k * 5 + 4, none⟩ q)) := fun w2 q hb hq => DD.out.putE rfl hkL hb hq
    have HRC : Hid (∀ w2, Below wr.heap.size wr w2 -> w2.cell? ⟨gb, k * 5 + 4, none⟩ = some (.slice qa Es[k].1.start.length qc) /\ w2.frozen? ⟨gb, k * 5 + 4, none⟩ = false) := fun w2 hb => ⟨zX hb q1, by
     have r2 := zS r0 hb
     rw [el] at r2
     exact World.ownsRow.frozenAt r2 _⟩
    generalize hzs : Es[k].1.start = zs at *
    have CO : Hid (∀ U, Below wr.heap.size wr U -> Calls Try.prog 44 #[.slice qa zs.length qc] U (uE U zs.length zs)) := fun U hb => sS qa zs zs.length qc U ((HQA.out.below (DD.out.bel.mono (Nat.le_refl _))).below hb)
    clear r0 hel hq hqa hlow hzs el
    go_upto_region 9 with fail
    refine zP 10 (fun i u v => match i with
     | 0 => v = .pointer (some ⟨w.heap.size, 2, none⟩)
     | 1 => v = .slice (some ⟨gb, 0, none⟩) E0.length d2
     | 2 => v = .int .i64 (k : Int)
     | 3 => v = .pointer (some ⟨w.heap.size, 2, none⟩)
     | 4 => v = .slice (some ⟨gb, 0, none⟩) E0.length d2
     | 5 => v = .int .i64 (k : Int)
     | 6 => v = .pointer (some ⟨gb, k * 5, none⟩)
     | 7 => v = .pointer (some ⟨gb, k * 5 + 4, none⟩)
     | 8 => v = .slice qa zs.length qc
     | 9 => uG wr zs u v
     | _ => True) (by kernel_rfl) (by kernel_rfl) (by kernel_rfl) (by kernel_rfl) ?_ ?_ ?_
    ·intro i w v w' h hb
     match i, h with
     | 0, h => exact h
     | 1, h => exact h
     | 2, h => exact h
     | 3, h => exact h
     | 4, h => exact h
     | 5, h => exact h
     | 6, h => exact h
     | 7, h => exact h
     | 8, h => exact h
     | 9, h => exact uG.later h hb
     | _ + 10, _ => trivial
    ·intro i o ρ w' hi ho hb hc hf hfr zY
     have g1 := zX hb g1
     have q1 := zX hb q1
     match i, hi with
     | 0, _ =>
      simp only [qS] at ho
      subst ho
      have ts : ρ (.tmp 1) = .pointer (some ⟨w.heap.size, 0, none⟩) := hfr 1 (by kernel_rfl)
      simp [go_sem, ts]
      exact qB
     | 1, _ =>
      simp only [qS] at ho
      subst ho
      have ts : ρ (.tmp 30) = .pointer (some ⟨w.heap.size, 2, none⟩) := zY 0 30 (by kernel_rfl) (by kernel_rfl)
      simp [go_sem, ts, g1]
      exact qB
     | 2, _ =>
      simp only [qS] at ho
      subst ho
      have ts : ρ (.tmp 4) = .int .i64 (k : Int) := hfr 4 (by kernel_rfl)
      simp [go_sem, ts]
      exact qB
     | 3, _ =>
      simp only [qS] at ho
      subst ho
      have ts : ρ (.tmp 1) = .pointer (some ⟨w.heap.size, 0, none⟩) := hfr 1 (by kernel_rfl)
      simp [go_sem, ts]
      exact qB
     | 4, _ =>
      simp only [qS] at ho
      subst ho
      have ts : ρ (.tmp 33) = .pointer (some ⟨w.heap.size, 2, none⟩) := zY 3 33 (by kernel_rfl) (by kernel_rfl)
      simp [go_sem, ts, g1]
      exact qB
     | 5, _ =>
      simp only [qS] at ho
      subst ho
      have ts : ρ (.tmp 4) = .int .i64 (k : Int) := hfr 4 (by kernel_rfl)
      simp [go_sem, ts]
      exact qB
     | 6, _ =>
      simp only [qS] at ho
      subst ho
      have t0 : ρ (.tmp 34) = .slice (some ⟨gb, 0, none⟩) E0.length d2 := zY 4 34 (by kernel_rfl) (by kernel_rfl)
      have t1 : ρ (.tmp 35) = .int .i64 (k : Int) := zY 5 35 (by kernel_rfl) (by kernel_rfl)
      simp [go_sem, t0, t1, hki]
      exact qB
     | 7, _ =>
      simp only [qS] at ho
      subst ho
      have ts : ρ (.tmp 36) = .pointer (some ⟨gb, k * 5, none⟩) := zY 6 36 (by kernel_rfl) (by kernel_rfl)
      simp [go_sem, ts]
      exact qB
     | 8, _ =>
      simp only [qS] at ho
      subst ho
      have ts : ρ (.tmp 37) = .pointer (some ⟨gb, k * 5 + 4, none⟩) := zY 7 37 (by kernel_rfl) (by kernel_rfl)
      simp [go_sem, ts, q1]
      exact qB
     | 9, _ =>
      simp only [qS] at ho
      subst ho
      have ts : ρ (.tmp 38) = .slice qa zs.length qc := zY 8 38 (by kernel_rfl) (by kernel_rfl)
      simp [go_sem, ts, hf]
      exact ⟨rfl, (CO.out w' hb).mono fun e w'' hh => nL hh hb.size⟩
    intro V9 w9 q9 hS
    have e0 : V9 0 = .pointer (some ⟨w.heap.size, 2, none⟩) := hS 0 (by decide)
    have e1 : V9 1 = .slice (some ⟨gb, 0, none⟩) E0.length d2 := hS 1 (by decide)
    have e2 : V9 2 = .int .i64 (k : Int) := hS 2 (by decide)
    have e3 : V9 3 = .pointer (some ⟨w.heap.size, 2, none⟩) := hS 3 (by decide)
    have e4 : V9 4 = .slice (some ⟨gb, 0, none⟩) E0.length d2 := hS 4 (by decide)
    have e5 : V9 5 = .int .i64 (k : Int) := hS 5 (by decide)
    have e6 : V9 6 = .pointer (some ⟨gb, k * 5, none⟩) := hS 6 (by decide)
    have e7 : V9 7 = .pointer (some ⟨gb, k * 5 + 4, none⟩) := hS 7 (by decide)
    have e8 : V9 8 = .slice qa zs.length qc := hS 8 (by decide)
    obtain ⟨ca, cc, e9, Q1⟩ : uG wr zs w9 (V9 9) := hS 9 (by decide)
    simp only [List.drop_succ_cons, List.drop_zero, List.take_succ_cons, List.take_zero, yL, e0, e1, e2, e3, e4, e5, e6, e7, e8, e9]
    clear hS e0 e1 e2 e3 e4 e5 e6 e7 e8 e9 V9
    simp only [Act.put, qU]
    have E10 := zZ (HPUT.out w9 (.slice ca zs.length cc) q9 Q1)
    obtain ⟨s1, f1⟩ := HRC.out w9 q9
    clear q9 Q1 q1 HPUT HRC CO
    go_wp2
    go_roundg (E0.length - (k + 1))
    case measure => omega
    case rel => exact ⟨k + 1, _, _, by omega, rfl, by go_num, E10.out⟩
   have hki : ¬ (k : Int) < (E0.length : Int) := by omega
   have ek : k = E0.length := by omega
   subst ek
   have s0 : wr.cell? ⟨w.heap.size, 0, none⟩ = some (.string (zW nm)) := DD.out.gb.cell rfl
   have s1 : wr.cell? ⟨w.heap.size, 1, none⟩ = some (.slice x1 A0.length d1) := DD.out.gb.cell rfl
   have s2 : wr.cell? ⟨w.heap.size, 2, none⟩ = some (.slice x2 E0.length d2) := DD.out.gb.cell rfl
   have s3 : wr.cell? ⟨w.heap.size, 3, none⟩ = some (.slice x3 Ps.length d3) := DD.out.gb.cell rfl
   have s4 : wr.cell? ⟨w.heap.size, 4, none⟩ = some (.slice x4 Os.length d4) := DD.out.gb.cell rfl
   go_wp2_with (refine zM _ rfl 31 (.tmp 2) (.tmp 43) rfl rfl (w.heap.size + 1) 31 _ _ rfl rfl DD.out.rb qZ rfl rfl ?_; intro w8 hN hU; have N8 := zZ hN; have U8 := zZ hU; clear hN hU)
   have t0 : w8.cell? ⟨w.heap.size + 1, 0, none⟩ = some (.string (zW nm)) := N8.out.cell rfl
   have t1 : w8.cell? ⟨w.heap.size + 1, 1, none⟩ = some (.slice x1 A0.length d1) := N8.out.cell rfl
   have t2 : w8.cell? ⟨w.heap.size + 1, 2, none⟩ = some (.slice x2 E0.length d2) := N8.out.cell rfl
   have t3 : w8.cell? ⟨w.heap.size + 1, 3, none⟩ = some (.slice x3 Ps.length d3) := N8.out.cell rfl
   have t4 : w8.cell? ⟨w.heap.size + 1, 4, none⟩ = some (.slice x4 Os.length d4) := N8.out.cell rfl
   refine bodyPost_ret (v := .agg #[.string (zW nm), .slice x1 A0.length d1, .slice x2 E0.length d2, .slice x3 Ps.length d3, .slice x4 Os.length d4]) (by simp [results, Try.results18, go_sem, t0, t1, t2, t3, t4]) rfl ?_
   have d := DD.out
   have l1 : As.length = A0.length := by have e := congrArg List.length d.fa; rw [List.length_map, List.length_map] at e; exact e
   have l2 : Es.length = E0.length := by have e := congrArg List.length d.fe; rw [List.length_map, List.length_map] at e; exact e
   have ta : As.take A0.length = As := List.take_of_length_le (by omega)
   have te : Es.take E0.length = Es := List.take_of_length_le (by omega)
   have na' := d.na
   have ne' := d.ne
   have ap' := d.ap
   rw [ta] at na' ap'
   rw [te] at ne' ap'
   have U := U8.out
   have lo := d.lo
   have kp : ∀ {T c n B : Nat} {v : Value} {xs : List Value}, wr.ownsRow B T c v n xs -> (∀ k, v.ownBlock = some k -> k ≠ w.heap.size + 1) -> w8.ownsRow B T c v n xs := fun r hn => zV r fun k e => U.block k (zR r k e) (hn k e)
   refine ⟨As, Es, rfl, ⟨⟨kp d.rw.r1 fun k e => Nat.ne_of_lt (Nat.lt_succ_of_lt (d.l1 k e)), kp d.rw.r2 fun k e => Nat.ne_of_lt (Nat.lt_succ_of_lt (d.l2 k e)), kp d.rw.r3 fun k e => Nat.ne_of_lt (Nat.lt_succ_of_lt (d.l3 k e)), kp d.rw.r4 fun k e => Nat.ne_of_lt (Nat.lt_succ_of_lt (d.l4 k e)), d.rw.n12, d.rw.n13, d.rw.n14, d.rw.n23, d.rw.n24, d.rw.n34⟩, fun p hp => ?_, fun p hp => ?_, ap', fun q hq => ?_⟩, d.fa, d.fe, ?_⟩
   ·exact yC.mono (kp (na' p hp) fun k e => Nat.ne_of_gt (zT (na' p hp) k e)) (Nat.le_trans lo (Nat.le_add_right _ 2))
   ·exact yC.mono (kp (ne' p hp) fun k e => Nat.ne_of_gt (zT (ne' p hp) k e)) (Nat.le_trans lo (Nat.le_add_right _ 2))
   ·have hq2 : ∀ k, q.ownBlock = some k -> w.heap.size + 2 <= k := fun k e => by
     rcases List.mem_append.1 hq with hq | hq
     ·obtain ⟨p, hp, rfl⟩ := List.mem_map.1 hq; exact zT (na' p hp) k e
     obtain ⟨p, hp, rfl⟩ := List.mem_map.1 hq; exact zT (ne' p hp) k e
    exact ⟨fun k h1 h2 => absurd (d.l1 k h1) (Nat.not_lt_of_ge (Nat.le_trans (Nat.le_add_right _ 2) (hq2 k h2))), fun k h1 h2 => absurd (d.l2 k h1) (Nat.not_lt_of_ge (Nat.le_trans (Nat.le_add_right _ 2) (hq2 k h2))), fun k h1 h2 => absurd (d.l3 k h1) (Nat.not_lt_of_ge (Nat.le_trans (Nat.le_add_right _ 2) (hq2 k h2))), fun k h1 h2 => absurd (d.l4 k h1) (Nat.not_lt_of_ge (Nat.le_trans (Nat.le_add_right _ 2) (hq2 k h2)))⟩
   exact d.bel.trans (U.below (Nat.le_trans lo (Nat.le_succ _)) d.bel.size)
end Go.Proofs.Ytgoconkleicmkaa
