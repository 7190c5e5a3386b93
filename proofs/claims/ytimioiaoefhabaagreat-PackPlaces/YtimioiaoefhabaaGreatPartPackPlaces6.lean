/- Texts of one chain, laid one behind the other. -/
import Derived.Test.YtimioiaoefhabaaGreatPartPackPlaces2
import Derived.Laws.AppendOwnNone
import Derived.SizedLaws
namespace Go.Proofs.YtimioiaoefhabaaGreat
open Go.ChangeShapes Go.WideShapes Go.ChangeAt Go.RowKit
theorem Tryz.info3 : (Tryz.prog.info? 3).map (fun i => (i.zero, i.size, i.bytes)) = some (some (.int .i64 0), 1, 8) := by kernel_rfl
/-- What a walk is told of a slice of ints that came in: its elements, that they fit, where they lie, and that it takes no more bytes than the form lets a slice take. -/
structure Arg (w : World) (a : Option Addr) (len cap : Nat) (zs : List Int) : Prop where
  size : zs.length = len
  reach : len * 8 ≤ 140737488351232
  none : a = Option.none → len = 0 ∧ cap = 0
  fits : InR zs
  lies : At w a zs
  room : len ≤ cap
theorem nth_take {zs : List Int} {len k : Nat} (h : k < len) : nth (zs.take len) k = nth zs k := by
  unfold nth
  rw [List.getD_eq_getElem?_getD, List.getD_eq_getElem?_getD, List.getElem?_take_of_lt h]
theorem Tryz.bytes3 : Tryz.prog.bytesOf 3 = 8 := by kernel_rfl
theorem arg_nil {W : World} : Arg W none 0 0 [] := ⟨rfl, by decide, fun _ => ⟨rfl, rfl⟩, inR0, Or.inl rfl, Nat.le_refl _⟩
theorem arg_mk {W : World} {x : Addr} {len cap : Nat} {zs : List Int} (hl : len ≤ cap) (hz : zs.length = cap) (hcell : ∀ i, i < zs.length → W.cell? (x.add i) = some (.int .i64 (zs.getD i 0)))
    (hwz : ∀ n ∈ zs, (Lit.int .i64 n).wf = true) (hb : len * 8 ≤ 140737488351232) : Arg W (some x) len cap (zs.take len) := by
  refine ⟨by rw [List.length_take]; omega, hb, (fun e => by cases e), fun k => ?_, ?_, hl⟩
  · by_cases hk : k < len
    · rw [nth_take hk]
      have hk' : k < zs.length := by omega
      have := bounds_i64 (hwz zs[k] (List.getElem_mem hk'))
      rwa [nth, List.getD_eq_getElem?_getD, List.getElem?_eq_getElem hk']
    · have e : nth (zs.take len) k = 0 := by
        unfold nth
        rw [List.getD_eq_getElem?_getD, List.getElem?_eq_none (by rw [List.length_take]; omega)]
        rfl
      rw [e]; decide
  · by_cases h0 : 0 < len
    · obtain ⟨b, off, rfl, hc⟩ := ints_at hcell (by omega)
      refine Or.inr ⟨b, off, rfl, fun k hk => ?_⟩
      rw [List.length_take] at hk
      rw [nth_take (by omega)]
      exact hc k (by omega)
    · have e : len = 0 := by omega
      subst e
      exact Or.inl rfl
theorem At.below {w w' : World} {a : Option Addr} {zs : List Int} (h : At w a zs) (hb : Below w.heap.size w w') : At w' a zs := by
  rcases h with h | ⟨b, off, rfl, hc⟩
  · exact Or.inl h
  · refine Or.inr ⟨b, off, rfl, fun k hk => ?_⟩
    rw [hb.cell (block_lt_of_cell (hc k hk))]
    exact hc k hk
theorem Arg.below {w w' : World} {a : Option Addr} {len cap : Nat} {zs : List Int} (h : Arg w a len cap zs) (hb : Below w.heap.size w w') : Arg w' a len cap zs :=
  ⟨h.size, h.reach, h.none, h.fits, h.lies.below hb, h.room⟩
theorem map_get {zs : List Int} {j : Nat} {u : Value} (h : (zs.map (Value.int .i64))[j]? = some u) : j < zs.length ∧ u = .int .i64 (nth zs j) := by
  rw [List.getElem?_map] at h
  cases e : zs[j]? with
  | none => rw [e] at h; cases h
  | some z =>
    rw [e] at h
    have hj := (List.getElem?_eq_some_iff.1 e).1
    refine ⟨hj, ?_⟩
    simp at h
    rw [← h, nth, List.getD_eq_getElem?_getD, e]
    rfl
theorem get_map {zs : List Int} {j : Nat} (h : j < zs.length) : (zs.map (Value.int .i64))[j]? = some (.int .i64 (nth zs j)) := by
  rw [List.getElem?_map, List.getElem?_eq_getElem h, nth, List.getD_eq_getElem?_getD, List.getElem?_eq_getElem h]
  rfl
/-- What the call's own row is good for. -/
theorem owns_at {w : World} {base n : Nat} {v : Value} {zs : List Int} (h : w.ownsRow base 3 1 v n (zs.map (Value.int .i64))) :
    ∃ a cap, v = .slice a n cap ∧ zs.length = n ∧ At w a zs ∧ n ≤ cap ∧ (a = none → n = 0 ∧ cap = 0) ∧ (∀ x, a = some x → base ≤ x.block) := by
  have hl : zs.length = n := by simpa using h.1
  rcases h.2 with ⟨hv, hn⟩ | ⟨g, cap, cur, hv, hg, hh, hc, hm, hs, ht⟩
  · exact ⟨none, 0, by rw [hv, hn], hl, Or.inl (List.eq_nil_of_length_eq_zero (by omega)), by omega, (fun _ => ⟨hn, rfl⟩), (fun x hx => by cases hx)⟩
  · refine ⟨some ⟨g, 0, none⟩, cap, hv, hl, Or.inr ⟨g, 0, rfl, fun k hk => ?_⟩, hc, (fun e => by cases e), (fun x hx => by cases hx; exact hg)⟩
    rw [hv] at h
    rw [Nat.zero_add, h.cellAt k (by omega), get_map hk]
theorem lies_new {w : World} {ad : Addr} {zs : List Int} (h : At w (some ad) zs) : ∀ j u, (zs.map (Value.int .i64))[j]? = some u → w.cell? (ad.add j) = some u := by
  intro j u hu
  obtain ⟨hj, rfl⟩ := map_get hu
  rcases h with h | ⟨b, off, e, hc⟩
  · subst h; simp at hj
  · cases e
    rw [Addr.add_lit]
    exact hc j hj
end Go.Proofs.YtimioiaoefhabaaGreat
