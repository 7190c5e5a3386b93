/- Texts of one chain, laid one behind the other. -/
import Derived.Test.YtokhoigpaanjeaaPartGraphSound26
import Derived.Test.YtokhoigpaanjeaaPartGraphSound28
import Derived.Test.YtokhoigpaanjeaaPartGraphSound27
namespace Go.Proofs.Ytokhoigpaanjeaa
open Go.ChangeShapes Go.WideShapes Go.ChangeAt Go.RowKit
theorem tagG_word {x : List UInt8} : ∀ (f t : Nat), 1 ≤ t → 1 ≤ (tagG f t x).1 → wordS (tagG f t x).1 = x
  | 0, _, _, h => by exact absurd h (by show ¬ (1 ≤ 0); decide)
  | f + 1, t, ht, h => by
    unfold tagG at h ⊢
    by_cases e : wordS t = x
    · rw [if_pos e] at h ⊢; exact e
    · rw [if_neg e] at h ⊢; exact tagG_word f (t + 1) (by omega) h
theorem numG_get {x : List UInt8} : ∀ (ns : List (List UInt8)) (i : Nat) (d : Int), numG ns i d x = d ∨ ∃ k, ∃ h : k < ns.length, numG ns i d x = ((i + k : Nat) : Int) ∧ ns[k] = x
  | [], _, _ => .inl rfl
  | n :: r, i, d => by
    show numG r (i + 1) (if n = x then (i : Int) else d) x = d ∨ _
    rcases numG_get r (i + 1) (if n = x then (i : Int) else d) with h | ⟨k, hk, h, e⟩
    · by_cases en : n = x
      · right
        refine ⟨0, by simp, ?_, en⟩
        show numG r (i + 1) (if n = x then (i : Int) else d) x = _
        rw [h, if_pos en]; simp
      · left; rw [h, if_neg en]
    · right
      refine ⟨k + 1, by simp; omega, ?_, by simpa using e⟩
      show numG r (i + 1) (if n = x then (i : Int) else d) x = _
      rw [h]; congr 1; omega
theorem numL_name {L : List Itm} {nm x : List UInt8} (h0 : 0 ≤ numL (actN L) x) : (nthA (lookS nm L).actors (numL (actN L) x).toNat).name = x := by
  unfold numL at h0 ⊢
  rcases numG_get (x := x) (actN L) 0 (-1) with h | ⟨k, hk, h, e⟩
  · rw [h] at h0; exact absurd h0 (by decide)
  · rw [h]
    have hk' : k < (kindF 1 L).length := by unfold actN at hk; simpa using hk
    have t : (actN L)[k]'hk = (kindF 1 L)[k].name := by simp [actN]
    have e2 : (kindF 1 L)[k].name = x := t.symm.trans e
    have e3 : nthA (lookS nm L).actors (((0 + k : Nat) : Int)).toNat = luA (kindF 1 L)[k] := by
      unfold nthA
      show ((kindF 1 L).map luA).getD _ _ = _
      rw [List.getD_eq_getElem?_getD, Int.toNat_natCast, Nat.zero_add, List.getElem?_map, List.getElem?_eq_getElem hk']
      rfl
    rw [e3]; exact e2
theorem bare_all {α β : Type} {M : List α} {u : α → β} {f : β → Itm} {h : α → Itm} (e : ∀ x ∈ M, bareI (f (u x)) = bareI (h x)) : ((M.map u).map f).map bareI = (M.map h).map bareI := by
  rw [List.map_map, List.map_map, List.map_map]
  exact List.map_congr_left fun x hx => e x hx
theorem plc_bare {L : List Itm} {nm : List UInt8} {p : Plc} (h0 : 0 ≤ numL (actN L) p.name) : bareP (plcS (lookS nm L) (numL (actN L) p.name) p.port) = bareP p := by
  unfold plcS bareP
  simp only [numL_name h0]
theorem draw_alike (nm : List UInt8) (L : List Itm) (h : (firstF (lookS nm L)).code = 0) : (drawS (lookS nm L)).map bareI = (sortL (L.map cleanI)).map bareI := by
  have hS := (sound_iff _).1 h
  have hA : (lookS nm L).actors = (kindF 1 L).map luA := rfl
  have hE : (lookS nm L).edges = (kindF 2 L).map (luE (actN L)) := rfl
  have hI : (lookS nm L).ins = (kindF 3 L).map (luI (actN L)) := rfl
  have hO : (lookS nm L).outs = (kindF 4 L).map (luO (actN L)) := rfl
  have p1 : ((lookS nm L).actors.map drawA).map bareI = ((kindF 1 L).map cleanI).map bareI := by
    rw [hA]
    refine bare_all fun x hx => ?_
    have hk := (kindF_mem hx).2
    obtain ⟨i, hi, rfl⟩ := List.mem_iff_getElem.1 hx
    have ok := (actor_ok (hS.acts i (by rw [hA]; simpa using hi))).2.2
    have en : nthA (lookS nm L).actors i = luA (kindF 1 L)[i] := by
      unfold nthA
      rw [hA, List.getD_eq_getElem?_getD, List.getElem?_map, List.getElem?_eq_getElem hi]
      rfl
    rw [en] at ok
    have ht : 1 ≤ (tagS (kindF 1 L)[i].tag).1 ∧ (tagS (kindF 1 L)[i].tag).1 ≤ 11 := by
      unfold ofS at ok
      by_cases h1 : 1 ≤ (luA (kindF 1 L)[i]).tag ∧ (luA (kindF 1 L)[i]).tag ≤ 11
      · exact h1
      · rw [if_neg h1] at ok
        exact absurd ok (by decide)
    have ew : (wordE (tagS (kindF 1 L)[i].tag).1).1 = (kindF 1 L)[i].tag := by
      unfold wordE
      rw [if_pos ht]
      exact tagG_word 11 1 (by decide) ht.1
    simp [drawA, luA, cleanI, bareI, hk, ew]
  have p2 : ((lookS nm L).edges.map (drawE (lookS nm L))).map bareI = ((kindF 2 L).map cleanI).map bareI := by
    rw [hE]
    refine bare_all fun x hx => ?_
    have hk := (kindF_mem hx).2
    obtain ⟨i, hi, rfl⟩ := List.mem_iff_getElem.1 hx
    have ok := (edge_ok (hS.edges i (by rw [hE]; simpa using hi))).1
    have en : nthE (lookS nm L).edges i = luE (actN L) (kindF 2 L)[i] := by
      unfold nthE
      rw [hE, List.getD_eq_getElem?_getD, List.getElem?_map, List.getElem?_eq_getElem hi]
      rfl
    rw [en] at ok
    have q1 := plc_bare (nm := nm) (L := L) (p := (kindF 2 L)[i].frm) ok.f0
    have q2 := plc_bare (nm := nm) (L := L) (p := (kindF 2 L)[i].tgt) ok.t0
    simp [drawE, luE, cleanI, bareI, hk, q1, q2]
  have p3 : ((lookS nm L).ins.map (drawI (lookS nm L))).map bareI = ((kindF 3 L).map cleanI).map bareI := by
    rw [hI]
    refine bare_all fun x hx => ?_
    have hk := (kindF_mem hx).2
    obtain ⟨i, hi, rfl⟩ := List.mem_iff_getElem.1 hx
    have ok := (in_ok (hS.ins i (by rw [hI]; simpa using hi))).2.2.1
    have en : nthP (lookS nm L).ins i = luI (actN L) (kindF 3 L)[i] := by
      unfold nthP
      rw [hI, List.getD_eq_getElem?_getD, List.getElem?_map, List.getElem?_eq_getElem hi]
      rfl
    rw [en] at ok
    have q2 := plc_bare (nm := nm) (L := L) (p := (kindF 3 L)[i].tgt) ok.1
    simp [drawI, luI, cleanI, bareI, hk, q2]
  have p4 : ((lookS nm L).outs.map (drawO (lookS nm L))).map bareI = ((kindF 4 L).map cleanI).map bareI := by
    rw [hO]
    refine bare_all fun x hx => ?_
    have hk := (kindF_mem hx).2
    obtain ⟨i, hi, rfl⟩ := List.mem_iff_getElem.1 hx
    have ok := (out_ok (hS.outs i (by rw [hO]; simpa using hi))).2.2.1
    have en : nthP (lookS nm L).outs i = luO (actN L) (kindF 4 L)[i] := by
      unfold nthP
      rw [hO, List.getD_eq_getElem?_getD, List.getElem?_map, List.getElem?_eq_getElem hi]
      rfl
    rw [en] at ok
    have q2 := plc_bare (nm := nm) (L := L) (p := (kindF 4 L)[i].frm) ok.1
    simp [drawO, luO, cleanI, bareI, hk, q2]
  unfold drawS sortL
  rw [kindF_clean, kindF_clean, kindF_clean, kindF_clean, List.map_append, List.map_append, List.map_append, List.map_append, List.map_append, List.map_append, p1, p2, p3, p4]
theorem argS_small {w : World} {a : Option Addr} {n : Nat} {L : List (Itm × Value)} (h : ArgS w a n L) (hm : ∀ p ∈ L, p.1.nums.length ≤ 1048576) (hz : ∀ p ∈ L, NmZ p.1) : ∀ p ∈ L, SmallI p.1 := fun p hp => by
  obtain ⟨b, d, e, hn, hr⟩ := h.shp p hp
  have hi := h.lies.nums p hp
  rw [e] at hi
  have A := ints_arg hi hn hr (hm p hp) (h.fits p hp).2.2
  exact ⟨⟨A.fits, A.reach⟩, hz p hp⟩
/-- A sketch of items that lie in memory of a call's own. -/
def LntE (nm : List UInt8) (n : Nat) (K : List Itm) (w : World) (e : Ending) (w' : World) : Prop := ∃ a c M, e = .returned (.agg #[.string (str nm), .slice a n c]) ∧ M.map Prod.fst = K ∧ M.length = n ∧ ItR w' a M ∧ ItO w' M ∧ Below w.heap.size w w'
theorem mem_same {L M : List (Itm × Value)} (h : M.map Prod.fst = L.map Prod.fst) {p : Itm × Value} (hp : p ∈ M) : ∃ q ∈ L, q.1 = p.1 := by
  have q : p.1 ∈ L.map Prod.fst := by rw [← h]; exact List.mem_map_of_mem hp
  obtain ⟨y, hy, e⟩ := List.mem_map.1 q
  exact ⟨y, hy, e⟩
theorem lent_small (nm : List UInt8) (a : Option Addr) (n c : Nat) (L : List (Itm × Value)) (w : World) (h : ArgS w a n L) (hn : n ≤ 1048576) (hm : ∀ p ∈ L, p.1.nums.length ≤ 1048576) (hs : ∀ p ∈ L, SmallI p.1) :
    Calls Try.prog 6 #[.agg #[.string (str nm), .slice a n c]] w (LntE nm n (L.map Prod.fst) w) := by
  refine (lent8m_any nm a n c L w h hn hm).mono fun e w' he => ?_
  obtain ⟨a', c', M, h1, h2, h3, h4, h5, -, h6⟩ := he
  refine ⟨a', c', M, h1, h2, h3, h4.pre, ⟨fun p hp => ?_, fun p hp => ?_⟩, h6⟩
  · obtain ⟨q, hq, e⟩ := mem_same h2 hp
    obtain ⟨g, -, -, e2, -⟩ := h5 p hp
    have hi := h4.pre.nums p hp
    rw [e2] at hi
    exact ⟨_, _, e2, ints_arg hi (fun e => by cases e) (by omega) (by rw [← e]; exact hm q hq) (by rw [← e]; exact (h.fits q hq).2.2)⟩
  · obtain ⟨q, hq, e⟩ := mem_same h2 hp
    rw [← e]
    exact (hs q hq).2
/-- A sketch of so many items as it has. -/
def OwnK (nm : List UInt8) (K : List Itm) (u : World) (v : Value) : Prop := ∃ a c M, v = .agg #[.string (str nm), .slice a M.length c] ∧ M.map Prod.fst = K ∧ ItR u a M ∧ ItO u M
theorem OwnK.later {nm : List UInt8} {K : List Itm} {u u' : World} {v : Value} (h : OwnK nm K u v) (hb : Below u.heap.size u u') : OwnK nm K u' v := by
  obtain ⟨a, c, M, h1, h2, h3, h4⟩ := h
  exact ⟨a, c, M, h1, h2, h3.below hb, h4.below hb⟩
def OwnKE (nm : List UInt8) (K : List Itm) (w : World) (e : Ending) (w' : World) : Prop := ∃ v, e = .returned v ∧ Below w.heap.size w w' ∧ OwnK nm K w' v
theorem clean_own (nm : List UInt8) (a : Option Addr) (n c : Nat) (L : List (Itm × Value)) (w : World) (h : ArgS w a n L) (hn : n ≤ 1048576) (hm : ∀ p ∈ L, p.1.nums.length ≤ 1048576) (hk4 : ∀ p ∈ L, 1 ≤ p.1.kind ∧ p.1.kind ≤ 4) (hs : ∀ p ∈ L, SmallI p.1) :
    Calls Try.prog 14 #[.agg #[.string (str nm), .slice a n c]] w (OwnKE nm ((L.map Prod.fst).map cleanI) w) := by
  refine (clean_any nm a n c L w h hn hm hk4 hs).mono fun e w' he => ?_
  obtain ⟨d, k, M, h1, h2, h3, h4, h5⟩ := he
  exact ⟨_, h1, h5, d, k, M, rfl, h2, h3, h4⟩
theorem sorted_own (nm : List UInt8) (K : List Itm) (hK : K.length ≤ 1048576) (v : Value) (w : World) (h : OwnK nm K w v) :
    Calls Try.prog 13 #[v] w (OwnKE nm (sortL K) w) := by
  obtain ⟨a, c, M, rfl, h2, h3, h4⟩ := h
  have hl : M.length ≤ 1048576 := by have e := congrArg List.length h2; rw [List.length_map] at e; omega
  refine (sorted_any nm a M.length c M w h3 h4 rfl hl).mono fun e w' he => ?_
  obtain ⟨d, k, e1, e2, e3, e4⟩ := he
  exact ⟨_, e1, e4, d, k, _, rfl, by rw [svL_map, h2], e2, e3⟩
/-- The end of Build where nothing is wrong. -/
def BldY (nm : List UInt8) (G : GG) (w : World) (e : Ending) (w' : World) : Prop := ∃ z1 z2 z3 z4 f1 f2 f3 f4, e = .returned (.tuple #[.agg #[.string (str nm), .slice z1 G.actors.length f1, .slice z2 G.edges.length f2, .slice z3 G.ins.length f3, .slice z4 G.outs.length f4], .agg #[.int .i64 0, .int .i64 0]]) ∧ GrG w' z1 z2 z3 z4 G ∧ Below w.heap.size w w'
theorem build_zero {nm : List UInt8} {K : List Itm} (h : (buildS nm K).2.1 = 0) : buildS nm K = (lookS nm K, 0, 0) ∧ (firstF (lookS nm K)).code = 0 := by
  unfold buildS at h ⊢
  by_cases h1 : 0 ≤ idxG K 0
  · rw [if_pos h1] at h; exact absurd (show (1 : Int) = 0 from h) (by decide)
  · rw [if_neg h1] at h ⊢
    by_cases h2 : (firstF (lookS nm K)).code ≠ 0
    · rw [if_pos h2] at h; exact absurd h h2
    · rw [if_neg h2]; exact ⟨rfl, Decidable.not_not.1 h2⟩
theorem build_yes (nm : List UInt8) (a : Option Addr) (n c : Nat) (L : List (Itm × Value)) (w : World) (hn : L.length = n) (h : ItR w a L) (hO : ItO w L) (hl : n ≤ 2000000) {G : GG} (hG : G.name = nm) (hS : SoundG G) (hB : buildS nm (L.map Prod.fst) = (G, 0, 0)) :
    Calls Try.prog 7 #[.agg #[.string (str nm), .slice a n c]] w (BldY nm G w) := by
  refine (build_any nm a n c L w hn h hO hl).mono fun e w' he => ?_
  unfold BuildE at he
  rw [hB, if_pos rfl] at he
  obtain ⟨v1, v2, v3, v4, As, Es, rfl, hw, hA, hE, nA, nE, hb⟩ := he
  have l1 : As.length = G.actors.length := by have e := congrArg List.length hA; rw [List.length_map] at e; exact e
  have l2 : Es.length = G.edges.length := by have e := congrArg List.length hE; rw [List.length_map] at e; exact e
  have hh := head_ok hS.head
  obtain ⟨z1, f1, rfl⟩ := own_slice hw.rw.r1
  obtain ⟨z2, f2, rfl⟩ := own_slice hw.rw.r2
  obtain ⟨z3, f3, rfl⟩ := own_slice hw.rw.r3
  obtain ⟨z4, f4, rfl⟩ := own_slice hw.rw.r4
  have gr := hw.gr (nm := nm) nA nE (by omega) (by omega) (by show G.ins.length ≤ _; omega) (by show G.outs.length ≤ _; omega)
  rw [hA, hE] at gr
  have eG : (⟨nm, G.actors, G.edges, G.ins, G.outs⟩ : GG) = G := by rw [← hG]
  refine ⟨z1, z2, z3, z4, f1, f2, f3, f4, ?_, ?_, hb⟩
  · rw [l1, l2]
  · rw [← eG]; exact gr
theorem build_no (nm : List UInt8) (a : Option Addr) (n c : Nat) (L : List (Itm × Value)) (w : World) (hn : L.length = n) (h : ItR w a L) (hO : ItO w L) (hl : n ≤ 2000000) {cd pl : Int} (h0 : cd ≠ 0) (hB : (buildS nm (L.map Prod.fst)).2 = (cd, pl)) :
    Calls Try.prog 7 #[.agg #[.string (str nm), .slice a n c]] w fun e w' => e = .returned (.tuple #[.agg #[.string ⟨#[]⟩, .slice none 0 0, .slice none 0 0, .slice none 0 0, .slice none 0 0], .agg #[.int .i64 cd, .int .i64 pl]]) ∧ Below w.heap.size w w' := by
  refine (build_any nm a n c L w hn h hO hl).mono fun e w' he => ?_
  unfold BuildE at he
  rw [hB, if_neg h0] at he
  exact he
theorem idxG_first : ∀ (K : List Itm) (i j : Nat), j < K.length → (∀ k, k < j → lessK (K.getD k noItm) = false) → lessK (K.getD j noItm) = true → idxG K i = ((i + j : Nat) : Int)
  | [], _, _, h, _, _ => absurd h (Nat.not_lt_zero _)
  | x :: r, i, 0, _, _, h2 => by
    have h3 : lessK x = true := h2
    show (if lessK x = true then (i : Int) else _) = _
    rw [if_pos h3]; rfl
  | x :: r, i, j + 1, h, h1, h2 => by
    have h3 : lessK x = false := h1 0 (by omega)
    show (if lessK x = true then (i : Int) else idxG r (i + 1)) = _
    rw [if_neg (by rw [h3]; decide), idxG_first r (i + 1) j (by simpa using h) (fun k hk => h1 (k + 1) (by omega)) h2]
    congr 1; omega
theorem map_nth {L : List (Itm × Value)} {k : Nat} (h : k < L.length) : (L.map Prod.fst).getD k noItm = (nthI L k).1 := by
  unfold nthI
  rw [List.getD_eq_getElem?_getD, List.getD_eq_getElem?_getD, List.getElem?_map, List.getElem?_eq_getElem h]
  rfl
theorem build_bad (nm : List UInt8) {L : List (Itm × Value)} {j : Nat} (h : j < L.length) (h1 : ∀ k, k < j → lessK (nthI L k).1 = false) (h2 : lessK (nthI L j).1 = true) : (buildS nm (L.map Prod.fst)).2 = (1, (nthI L j).1.place) := by
  have e : idxG (L.map Prod.fst) 0 = (j : Int) := by
    have q := idxG_first (L.map Prod.fst) 0 j (by simpa using h) (fun k hk => by rw [map_nth (by omega)]; exact h1 k hk) (by rw [map_nth h]; exact h2)
    rw [Nat.zero_add] at q
    exact q
  unfold buildS
  rw [e, if_pos (by omega), Int.toNat_natCast, map_nth h]
theorem less_all {L : List (Itm × Value)} (h : ∀ k, k < L.length → lessK (nthI L k).1 = false) : (∀ x ∈ L.map Prod.fst, lessK x = false) ∧ ∀ p ∈ L, 1 ≤ p.1.kind ∧ p.1.kind ≤ 4 := by
  have q : ∀ p ∈ L, lessK p.1 = false := fun p hp => by
    obtain ⟨k, hk, e⟩ := List.getElem_of_mem hp
    have := h k hk
    unfold nthI at this
    rw [List.getD_eq_getElem?_getD, List.getElem?_eq_getElem hk] at this
    rw [← e]; exact this
  refine ⟨fun x hx => ?_, fun p hp => ?_⟩
  · obtain ⟨p, hp, rfl⟩ := List.mem_map.1 hx
    exact q p hp
  · have := q p hp
    unfold lessK at this
    simp at this
    omega
theorem grG_len {w : World} {a1 a2 a3 a4 : Option Addr} {g : GG} (h : GrG w a1 a2 a3 a4 g) : (∀ x ∈ g.actors, x.params.length ≤ 4611686018427387904) ∧ ∀ x ∈ g.edges, x.start.length ≤ 4611686018427387904 := by
  have q := h.nums
  exact ⟨fun x hx => by have := (q.1 x hx).2.2; omega, fun x hx => by have := (q.2 x hx).2; omega⟩
/-- What was drawn of the graph that was built is, but for places, the cleaned and sorted sketch. -/
theorem alike_drawn (nm : List UInt8) {L : List (Itm × Value)} (hm : ∀ p ∈ L, p.1.nums.length ≤ 1048576) (h0 : (firstF (lookS nm (L.map Prod.fst))).code = 0) {M : List (Itm × Value)} (hM : M.map Prod.fst = drawS (lookS nm (L.map Prod.fst))) (b1 : Option Addr) (c1 : Nat) (w : World) (h1 : ItR w b1 M) (v : Value) (hv : OwnK nm (sortL ((L.map Prod.fst).map cleanI)) w v) :
    Calls Try.prog 17 #[.agg #[.string (str nm), .slice b1 M.length c1], v] w fun e w' => e = .returned (.bool true) ∧ Below w.heap.size w w' := by
  obtain ⟨b2, c2, S, rfl, hS, h2, -⟩ := hv
  have hs : (M.map Prod.fst).map bareI = (S.map Prod.fst).map bareI := by rw [hM, hS]; exact draw_alike nm _ h0
  have hl : S.length = M.length := by have e := congrArg List.length hs; simpa using e.symm
  have h160 : M.length ≤ 160 := by have e := congrArg List.length hM; rw [List.length_map] at e; rw [e]; exact draw_len _ ((sound_iff _).1 h0)
  rw [hl]
  refine alike8_any nm b1 b2 M.length c1 c2 M S w rfl hl hs h1 h2 (by omega) fun p hp => ?_
  have q : bareI p.1 ∈ (S.map Prod.fst).map bareI := by rw [← hs]; exact List.mem_map_of_mem (List.mem_map_of_mem hp)
  obtain ⟨x, hx, e⟩ := List.mem_map.1 q
  have e2 : x.nums = p.1.nums := (bare_same e).2.2.2.1
  rw [hS] at hx
  obtain ⟨y, hy, e3⟩ := List.mem_map.1 (sort_mem hx).1
  obtain ⟨z, hz, e4⟩ := List.mem_map.1 hy
  rw [← e2, ← e3, ← e4]
  have := hm z hz
  show (if _ then _ else _ : List Int).length ≤ _
  split
  · omega
  · exact Nat.zero_le _
theorem sort_len : ∀ (K : List Itm), (sortL K).length ≤ K.length
  | [] => by simp [sortL, kindF]
  | x :: r => by
    have h := sort_len r
    unfold sortL at h ⊢
    simp only [List.length_append, kindF_cons] at h ⊢
    by_cases h1 : x.kind = 1
    · rw [if_pos h1, if_neg (by omega), if_neg (by omega), if_neg (by omega)]
      simp only [List.length_cons]
      omega
    · rw [if_neg h1]
      by_cases h2 : x.kind = 2
      · rw [if_pos h2, if_neg (by omega), if_neg (by omega)]
        simp only [List.length_cons]
        omega
      · rw [if_neg h2]
        by_cases h3 : x.kind = 3
        · rw [if_pos h3, if_neg (by omega)]
          simp only [List.length_cons]
          omega
        · rw [if_neg h3]
          by_cases h4 : x.kind = 4
          · rw [if_pos h4]
            simp only [List.length_cons]
            omega
          · rw [if_neg h4]
            simp only [List.length_cons]
            omega
set_option maxRecDepth 100000 in
set_option maxHeartbeats 32000000 in
theorem graphSound_walk (nm : List UInt8) (a : Option Addr) (n c : Nat) (L : List (Itm × Value)) (w : World) (h : ArgS w a n L) (hz : ∀ p ∈ L, NmZ p.1) :
    Calls Try.prog 4 #[.agg #[.string (str nm), .slice a n c]] w fun e w' => e = .returned (.bool true) ∧ Below w.heap.size w w' := by
  have ba := (Below.refl w.heap.size w).alloc (Nat.le_refl _) (.cells #[.string (str nm), .slice a n c] 24)
  have BA := hiddenG ba
  have X0 := hiddenG (blkA_new 24 w #[.string (str nm), .slice a n c])
  have HA := hiddenG h
  have HL := hiddenG h.size
  have HZ := hiddenG hz
  have HVY := hiddenG (heavy_any nm a n c L _ (h.below ba))
  have AW : Hid (∀ U, Calls Try.prog 11 #[] U fun e w' => e = .returned (.bool true) ∧ Below U.heap.size U w') := fun U => awake8 U
  have y0 := X0.out.cell (k := 0) rfl
  have y1 := X0.out.cell (k := 1) rfl
  simp only [List.getElem_toArray, List.getElem_cons_zero, List.getElem_cons_succ] at y0 y1
  unfold HeavyEnd at HVY
  clear ba h hz
  go_enter Try.func4, Try.ntmps4
  go_upto_region 1 with fail
  generalize w.alloc (.cells #[.string (str nm), .slice a n c] 24) = W0 at *
  go_upto_region 3 with (go_at_call 5; (with_reducible refine HVY.out.mono ?_); rintro e W1 ⟨bv, rfl, hL, b1⟩; have L1 := hiddenG (BA.out.trans (b1.mono BA.out.size)); have X1 := hiddenG (X0.out.below b1); have HLT := hiddenG hL; clear b1 hL y0 y1; cases bv)
  rotate_left
  · go_ret
    exact ⟨rfl, L1.out⟩
  obtain ⟨hn, hm⟩ := HLT.out (by first | trivial | rfl)
  have HM := hiddenG hm
  have SML := hiddenG (argS_small HA.out hm HZ.out)
  have LN : Hid (∀ U, Below w.heap.size w U → Calls Try.prog 6 #[.agg #[.string (str nm), .slice a n c]] U (LntE nm n (L.map Prod.fst) U)) := fun U hU => lent_small nm a n c L U (HA.out.below hU) hn HM.out SML.out
  have hnI : (n : Int) ≤ 1048576 := by omega
  clear HLT X0 BA HVY hm
  have y0 := X1.out.cell (k := 0) rfl
  have y1 := X1.out.cell (k := 1) rfl
  simp only [List.getElem_toArray, List.getElem_cons_zero, List.getElem_cons_succ] at y0 y1
  go_wp2
  go_loopg [3] n (fun gk u wr => ∃ j : Nat, j ≤ n ∧ gk = n - j ∧ u = .int .i64 (j : Int) ∧ W1 = wr ∧ ∀ i, i < j → lessK (nthI L i).1 = false)
  case atStart => exact ⟨0, Nat.zero_le _, rfl, rfl, rfl, fun i hi => absurd hi (Nat.not_lt_zero _)⟩
  case round =>
    obtain ⟨j, hj, rfl, rfl, hwr, hg⟩ := hrel
    subst hwr
    have HG := hiddenG hg
    clear hg
    by_cases hlj : j < n
    · have hji : (j : Int) < (n : Int) := by omega
      have hkl : j < n := hlj
      have hjL : j < L.length := by rw [HL.out]; exact hlj
      have hwj : IntKind.i64.wrap ((j : Int) + 1) = (j : Int) + 1 := by rw [IntKind.wrap_i64]; omega
      rcases HA.out.lies.lie with e | ⟨eb, eo, ee, hce⟩
      · rw [e] at hjL; exact absurd hjL (Nat.not_lt_zero _)
      subst ee
      obtain ⟨f0, -, -, -, -, -, -, -, -, -, f10⟩ := hce j hjL
      obtain ⟨ki, hki⟩ : ∃ q, (nthI L j).1.kind = q := ⟨_, rfl⟩
      obtain ⟨pl, hpl⟩ : ∃ q, (nthI L j).1.place = q := ⟨_, rfl⟩
      rw [hki] at f0
      rw [hpl] at f10
      have HKI := hiddenG hki
      have HPL := hiddenG hpl
      have m0 := cellG L1.out f0
      have f10r := hiddenG f10
      clear f0 f10 hki hpl hce
      by_cases h1 : ki < 1
      · skip
        have hbd : lessK (nthI L j).1 = true := by
          unfold lessK
          rw [HKI.out]
          simp
          omega
        have hbb := build_bad nm hjL HG.out hbd
        rw [HPL.out] at hbb
        have BN : Hid (∀ U la lc M, M.map Prod.fst = L.map Prod.fst → M.length = n → ItR U la M → ItO U M → Calls Try.prog 7 #[.agg #[.string (str nm), .slice la n lc]] U fun e w' => e = .returned (.tuple #[.agg #[.string ⟨#[]⟩, .slice none 0 0, .slice none 0 0, .slice none 0 0, .slice none 0 0], .agg #[.int .i64 1, .int .i64 pl]]) ∧ Below U.heap.size U w') := fun U la lc M h1 h2 h3 h4 => build_no nm la n lc M U h2 h3 h4 (by omega) (by decide) (by rw [h1]; exact hbb)
        clear hbb hbd
        go_upto_region 8 with (first
          | (go_at_call 7; (with_reducible refine (BN.out _ _ _ _ HMP.out HML.out HIR.out HIO.out).mono ?_); rintro e w3 ⟨rfl, b3⟩; have B3 := hiddenG (B2.out.trans (b3.mono B2.out.size)); have X3 := hiddenG (X2.out.below b3); clear b3)
          | (go_at_call 6; (with_reducible refine (LN.out W1 L1.out).mono ?_); rintro e w2 ⟨la, lc, M, rfl, hM, hML, hI, hO, b2⟩; have HMP := hiddenG hM; have HML := hiddenG hML; have HIR := hiddenG hI; have HIO := hiddenG hO; have B2 := hiddenG (L1.out.trans (b2.mono L1.out.size)); have X2 := hiddenG (X1.out.below b2); clear hM hML hI hO b2 y0 y1))
        clear B2 X2 BN HMP HML HIR HIO
        have bv := ((Below.refl w3.heap.size w3).alloc (Nat.le_refl _) (.cells #[.string ⟨#[]⟩, .slice none 0 0, .slice none 0 0, .slice none 0 0, .slice none 0 0] 31)).alloc (by simp) (.cells #[.int .i64 1, .int .i64 pl] 34)
        have HV8 := hiddenG ((blkA_new 31 w3 #[.string ⟨#[]⟩, .slice none 0 0, .slice none 0 0, .slice none 0 0, .slice none 0 0]).below ((Below.refl _ _).alloc (Nat.le_refl _) (.cells #[.int .i64 1, .int .i64 pl] 34)))
        have FV8 : Hid (BlkA 34 (w3.heap.size + 1) ((w3.alloc (.cells #[.string ⟨#[]⟩, .slice none 0 0, .slice none 0 0, .slice none 0 0, .slice none 0 0] 31)).alloc (.cells #[.int .i64 1, .int .i64 pl] 34)) #[.int .i64 1, .int .i64 pl]) := by
          have q := blkA_new 34 (w3.alloc (.cells #[.string ⟨#[]⟩, .slice none 0 0, .slice none 0 0, .slice none 0 0, .slice none 0 0] 31)) #[.int .i64 1, .int .i64 pl]
          rw [World.size_alloc] at q
          exact q
        have X8 := hiddenG (X3.out.below bv)
        have B8 := hiddenG (B3.out.trans (bv.mono B3.out.size))
        clear bv X3 B3
        generalize hb_V8 : w3.heap.size = t4 at *
        generalize (w3.alloc (.cells #[.string ⟨#[]⟩, .slice none 0 0, .slice none 0 0, .slice none 0 0, .slice none 0 0] 31)).alloc (.cells #[.int .i64 1, .int .i64 pl] 34) = V8 at *
        clear hb_V8
        have m10v := hiddenG (cellG B8.out f10r.out)
        refine wp_region_gen [] (fun d i u z => match i with
            | 0 => z = .bool true
            | 1 => z = .bool true
            | 2 => z = .agg #[.int .i64 1, .int .i64 pl]
            | 3 => z = .pointer (some ⟨w.heap.size, 1, none⟩)
            | 4 => z = .slice (some ⟨eb, eo, none⟩) n c
            | 5 => z = .int .i64 (j : Int)
            | 6 => z = .pointer (some ⟨eb, eo + j * 11, none⟩)
            | 7 => z = .pointer (some ⟨eb, eo + j * 11 + 10, none⟩)
            | 8 => z = .int .i64 pl
            | 9 => z = .agg #[.int .i64 1, .int .i64 pl]
            | 10 => z = .bool true
            | 11 => z = .bool true
            | 12 => z = .bool true
            | _ => True) (fun _ u => Below V8.heap.size V8 u) (by kernel_rfl) (by kernel_rfl) (by kernel_rfl) ?_ ?_ ?_ ?_ ?_ ?_ (by kernel_rfl)
        · intro d i w v w' h hb
          match i, h with
          | 0, h => exact h
          | 1, h => exact h
          | 2, h => exact h
          | 3, h => exact h
          | 4, h => exact h
          | 5, h => exact h
          | 6, h => exact h
          | 7, h => exact h
          | 8, h => exact h
          | 9, h => exact h
          | 10, h => exact h
          | 11, h => exact h
          | 12, h => exact h
          | _ + 13, _ => trivial
        · intro d u u' h hb
          exact h.trans (hb.mono h.size)
        · exact Below.refl _ _
        · intro d i o ρ w' hm ho hf hg hC hcs hfs hfr hdep
          match i, hm, ho, hf, hg, hfr, hdep with
          | 0, _, ho, hf, hg, hfr, hdep =>
            simp only [gTA, gCZ, gSI] at ho
            subst ho
            refine ⟨fun _ => ?_, fun hw => absurd (show true = false from hw) (by decide)⟩
            simp [go_sem, hfs]
            exact ⟨rfl, (AW.out w').mono fun e w'' hh => ⟨_, hh.1, hh.2, rfl⟩⟩
          | 1, _, ho, hf, hg, hfr, hdep =>
            simp only [gTA, gCZ, gCS, gSI] at ho
            subst ho
            refine ⟨fun _ => ?_, fun hw => absurd (show true = false from hw) (by decide)⟩
            have d0 : ρ (.tmp 43) = .bool true := hdep 0 43 (by kernel_rfl) (by kernel_rfl)
            simp [go_sem, d0]
            exact ⟨Below.refl _ _, rfl⟩
          | 2, _, ho, hf, hg, hfr, hdep =>
            simp only [gTA, gCZ, gCS, gSI] at ho
            subst ho
            have gd : ρ (.tmp 44) = .bool true := hdep 1 44 (by kernel_rfl) (by kernel_rfl)
            refine ⟨fun _ => ?_, fun hw => absurd (show (match ρ (.tmp 44) with | .bool c => c == true | _ => false) = false from hw) (by rw [gd]; decide)⟩
            clear gd
            have q := (FV8.out.below hC)
            have s0 : w'.cell? ⟨t4 + 1, 0, none⟩ = some (.int .i64 1) := q.cell rfl
            have s1 : w'.cell? ⟨t4 + 1, 1, none⟩ = some (.int .i64 pl) := q.cell rfl
            have ts : ρ (.tmp 5) = .pointer (some ⟨t4 + 1, 0, none⟩) := hfr 5 (by kernel_rfl)
            simp [go_sem, ts, s0, s1]
            exact ⟨Below.refl _ _, rfl⟩
          | 3, _, ho, hf, hg, hfr, hdep =>
            simp only [gTA, gCZ, gCS, gSI] at ho
            subst ho
            have gd : ρ (.tmp 44) = .bool true := hdep 1 44 (by kernel_rfl) (by kernel_rfl)
            refine ⟨fun _ => ?_, fun hw => absurd (show (match ρ (.tmp 44) with | .bool c => c == true | _ => false) = false from hw) (by rw [gd]; decide)⟩
            clear gd
            have ts : ρ (.tmp 1) = .pointer (some ⟨w.heap.size, 0, none⟩) := hfr 1 (by kernel_rfl)
            simp [go_sem, ts]
            exact ⟨Below.refl _ _, rfl⟩
          | 4, _, ho, hf, hg, hfr, hdep =>
            simp only [gTA, gCZ, gCS, gSI] at ho
            subst ho
            have gd : ρ (.tmp 44) = .bool true := hdep 1 44 (by kernel_rfl) (by kernel_rfl)
            refine ⟨fun _ => ?_, fun hw => absurd (show (match ρ (.tmp 44) with | .bool c => c == true | _ => false) = false from hw) (by rw [gd]; decide)⟩
            clear gd
            have cc : w'.cell? ⟨w.heap.size, 1, none⟩ = some (.slice (some ⟨eb, eo, none⟩) n c) := (X8.out.below hC).cell rfl
            have d0 : ρ (.tmp 46) = .pointer (some ⟨w.heap.size, 1, none⟩) := hdep 3 46 (by kernel_rfl) (by kernel_rfl)
            simp [go_sem, d0, cc]
            exact ⟨Below.refl _ _, rfl⟩
          | 5, _, ho, hf, hg, hfr, hdep =>
            simp only [gTA, gCZ, gCS, gSI] at ho
            subst ho
            have gd : ρ (.tmp 44) = .bool true := hdep 1 44 (by kernel_rfl) (by kernel_rfl)
            refine ⟨fun _ => ?_, fun hw => absurd (show (match ρ (.tmp 44) with | .bool c => c == true | _ => false) = false from hw) (by rw [gd]; decide)⟩
            clear gd
            have ts : ρ (.tmp 3) = .int .i64 (j : Int) := hfr 3 (by kernel_rfl)
            simp [go_sem, ts]
            exact ⟨Below.refl _ _, rfl⟩
          | 6, _, ho, hf, hg, hfr, hdep =>
            simp only [gTA, gCZ, gCS, gSI] at ho
            subst ho
            have gd : ρ (.tmp 44) = .bool true := hdep 1 44 (by kernel_rfl) (by kernel_rfl)
            refine ⟨fun _ => ?_, fun hw => absurd (show (match ρ (.tmp 44) with | .bool c => c == true | _ => false) = false from hw) (by rw [gd]; decide)⟩
            clear gd
            have d0 : ρ (.tmp 47) = .slice (some ⟨eb, eo, none⟩) n c := hdep 4 47 (by kernel_rfl) (by kernel_rfl)
            have d1 : ρ (.tmp 48) = .int .i64 (j : Int) := hdep 5 48 (by kernel_rfl) (by kernel_rfl)
            simp [go_sem, d0, d1, hkl]
            exact ⟨Below.refl _ _, rfl⟩
          | 7, _, ho, hf, hg, hfr, hdep =>
            simp only [gTA, gCZ, gCS, gSI] at ho
            subst ho
            have gd : ρ (.tmp 44) = .bool true := hdep 1 44 (by kernel_rfl) (by kernel_rfl)
            refine ⟨fun _ => ?_, fun hw => absurd (show (match ρ (.tmp 44) with | .bool c => c == true | _ => false) = false from hw) (by rw [gd]; decide)⟩
            clear gd
            have d0 : ρ (.tmp 49) = .pointer (some ⟨eb, eo + j * 11, none⟩) := hdep 6 49 (by kernel_rfl) (by kernel_rfl)
            simp [go_sem, d0]
            exact ⟨Below.refl _ _, rfl⟩
          | 8, _, ho, hf, hg, hfr, hdep =>
            simp only [gTA, gCZ, gCS, gSI] at ho
            subst ho
            have gd : ρ (.tmp 44) = .bool true := hdep 1 44 (by kernel_rfl) (by kernel_rfl)
            refine ⟨fun _ => ?_, fun hw => absurd (show (match ρ (.tmp 44) with | .bool c => c == true | _ => false) = false from hw) (by rw [gd]; decide)⟩
            clear gd
            have cc := cellG hC m10v.out
            have d0 : ρ (.tmp 50) = .pointer (some ⟨eb, eo + j * 11 + 10, none⟩) := hdep 7 50 (by kernel_rfl) (by kernel_rfl)
            simp [go_sem, d0, cc]
            exact ⟨Below.refl _ _, rfl⟩
          | 9, _, ho, hf, hg, hfr, hdep =>
            simp only [gTA, gCZ, gCS, gSI] at ho
            subst ho
            have gd : ρ (.tmp 44) = .bool true := hdep 1 44 (by kernel_rfl) (by kernel_rfl)
            refine ⟨fun _ => ?_, fun hw => absurd (show (match ρ (.tmp 44) with | .bool c => c == true | _ => false) = false from hw) (by rw [gd]; decide)⟩
            clear gd
            have d0 : ρ (.tmp 51) = .int .i64 pl := hdep 8 51 (by kernel_rfl) (by kernel_rfl)
            simp [go_sem, d0, hcs]
            exact ⟨Below.refl _ _, rfl⟩
          | 10, _, ho, hf, hg, hfr, hdep =>
            simp only [gTA, gCZ, gCS, gSI] at ho
            subst ho
            have gd : ρ (.tmp 44) = .bool true := hdep 1 44 (by kernel_rfl) (by kernel_rfl)
            refine ⟨fun _ => ?_, fun hw => absurd (show (match ρ (.tmp 44) with | .bool c => c == true | _ => false) = false from hw) (by rw [gd]; decide)⟩
            clear gd
            have d0 : ρ (.tmp 45) = .agg #[.int .i64 1, .int .i64 pl] := hdep 2 45 (by kernel_rfl) (by kernel_rfl)
            have d1 : ρ (.tmp 52) = .agg #[.int .i64 1, .int .i64 pl] := hdep 9 52 (by kernel_rfl) (by kernel_rfl)
            simp [go_sem, d0, d1]
            exact ⟨Below.refl _ _, rfl⟩
          | 11, _, ho, hf, hg, hfr, hdep =>
            simp only [gTA, gCZ, gCS, gSI] at ho
            subst ho
            refine ⟨fun _ => ?_, fun hw => absurd (show true = false from hw) (by decide)⟩
            have d0 : ρ (.tmp 44) = .bool true := hdep 1 44 (by kernel_rfl) (by kernel_rfl)
            have d1 : ρ (.tmp 53) = .bool true := hdep 10 53 (by kernel_rfl) (by kernel_rfl)
            simp [go_sem, d0, d1, hcs]
            exact ⟨Below.refl _ _, rfl⟩
          | 12, _, ho, hf, hg, hfr, hdep =>
            simp only [gTA, gCZ, gCS, gSI] at ho
            subst ho
            refine ⟨fun _ => ?_, fun hw => absurd (show true = false from hw) (by decide)⟩
            have d0 : ρ (.tmp 54) = .bool true := hdep 11 54 (by kernel_rfl) (by kernel_rfl)
            simp [go_sem, d0]
            exact ⟨Below.refl _ _, rfl⟩
          | n + 13, _, ho, _, _, _, _ => simp at ho
        · intro d i o ρ w' hm ho h0 hf hg hC hcs hfs hfr hdep
          exact absurd hm (by simp)
        · intro V9 w9 hC9 hS
          have e0 : V9 0 = .bool true := hS 0 (by decide) (by intro h; cases h)
          have e1 : V9 1 = .bool true := hS 1 (by decide) (by intro h; cases h)
          have e2 : V9 2 = .agg #[.int .i64 1, .int .i64 pl] := hS 2 (by decide) (by intro h; cases h)
          have e3 : V9 3 = .pointer (some ⟨w.heap.size, 1, none⟩) := hS 3 (by decide) (by intro h; cases h)
          have e4 : V9 4 = .slice (some ⟨eb, eo, none⟩) n c := hS 4 (by decide) (by intro h; cases h)
          have e5 : V9 5 = .int .i64 (j : Int) := hS 5 (by decide) (by intro h; cases h)
          have e6 : V9 6 = .pointer (some ⟨eb, eo + j * 11, none⟩) := hS 6 (by decide) (by intro h; cases h)
          have e7 : V9 7 = .pointer (some ⟨eb, eo + j * 11 + 10, none⟩) := hS 7 (by decide) (by intro h; cases h)
          have e8 : V9 8 = .int .i64 pl := hS 8 (by decide) (by intro h; cases h)
          have e9 : V9 9 = .agg #[.int .i64 1, .int .i64 pl] := hS 9 (by decide) (by intro h; cases h)
          have e10 : V9 10 = .bool true := hS 10 (by decide) (by intro h; cases h)
          have e11 : V9 11 = .bool true := hS 11 (by decide) (by intro h; cases h)
          have e12 : V9 12 = .bool true := hS 12 (by decide) (by intro h; cases h)
          simp only [puts, e0, e1, e2, e3, e4, e5, e6, e7, e8, e9, e10, e11, e12]
          simp only [Act.put, List.setIfInBounds_toArray, List.set_cons_zero, List.set_cons_succ]
          clear hS e0 e1 e2 e3 e4 e5 e6 e7 e8 e9 e10 e11 e12
          have B9 := hiddenG (B8.out.trans (hC9.mono B8.out.size))
          clear hC9
          go_wp2
          go_ret
          exact ⟨by first | rfl | simp, B9.out⟩
      by_cases h4 : 4 < ki
      · skip
        have hbd : lessK (nthI L j).1 = true := by
          unfold lessK
          rw [HKI.out]
          simp
          omega
        have hbb := build_bad nm hjL HG.out hbd
        rw [HPL.out] at hbb
        have BN : Hid (∀ U la lc M, M.map Prod.fst = L.map Prod.fst → M.length = n → ItR U la M → ItO U M → Calls Try.prog 7 #[.agg #[.string (str nm), .slice la n lc]] U fun e w' => e = .returned (.tuple #[.agg #[.string ⟨#[]⟩, .slice none 0 0, .slice none 0 0, .slice none 0 0, .slice none 0 0], .agg #[.int .i64 1, .int .i64 pl]]) ∧ Below U.heap.size U w') := fun U la lc M h1 h2 h3 h4 => build_no nm la n lc M U h2 h3 h4 (by omega) (by decide) (by rw [h1]; exact hbb)
        clear hbb hbd
        go_upto_region 8 with (first
          | (go_at_call 7; (with_reducible refine (BN.out _ _ _ _ HMP.out HML.out HIR.out HIO.out).mono ?_); rintro e w3 ⟨rfl, b3⟩; have B3 := hiddenG (B2.out.trans (b3.mono B2.out.size)); have X3 := hiddenG (X2.out.below b3); clear b3)
          | (go_at_call 6; (with_reducible refine (LN.out W1 L1.out).mono ?_); rintro e w2 ⟨la, lc, M, rfl, hM, hML, hI, hO, b2⟩; have HMP := hiddenG hM; have HML := hiddenG hML; have HIR := hiddenG hI; have HIO := hiddenG hO; have B2 := hiddenG (L1.out.trans (b2.mono L1.out.size)); have X2 := hiddenG (X1.out.below b2); clear hM hML hI hO b2 y0 y1))
        clear B2 X2 BN HMP HML HIR HIO
        have bv := ((Below.refl w3.heap.size w3).alloc (Nat.le_refl _) (.cells #[.string ⟨#[]⟩, .slice none 0 0, .slice none 0 0, .slice none 0 0, .slice none 0 0] 31)).alloc (by simp) (.cells #[.int .i64 1, .int .i64 pl] 34)
        have HV8 := hiddenG ((blkA_new 31 w3 #[.string ⟨#[]⟩, .slice none 0 0, .slice none 0 0, .slice none 0 0, .slice none 0 0]).below ((Below.refl _ _).alloc (Nat.le_refl _) (.cells #[.int .i64 1, .int .i64 pl] 34)))
        have FV8 : Hid (BlkA 34 (w3.heap.size + 1) ((w3.alloc (.cells #[.string ⟨#[]⟩, .slice none 0 0, .slice none 0 0, .slice none 0 0, .slice none 0 0] 31)).alloc (.cells #[.int .i64 1, .int .i64 pl] 34)) #[.int .i64 1, .int .i64 pl]) := by
          have q := blkA_new 34 (w3.alloc (.cells #[.string ⟨#[]⟩, .slice none 0 0, .slice none 0 0, .slice none 0 0, .slice none 0 0] 31)) #[.int .i64 1, .int .i64 pl]
          rw [World.size_alloc] at q
          exact q
        have X8 := hiddenG (X3.out.below bv)
        have B8 := hiddenG (B3.out.trans (bv.mono B3.out.size))
        clear bv X3 B3
        generalize hb_V8 : w3.heap.size = t4 at *
        generalize (w3.alloc (.cells #[.string ⟨#[]⟩, .slice none 0 0, .slice none 0 0, .slice none 0 0, .slice none 0 0] 31)).alloc (.cells #[.int .i64 1, .int .i64 pl] 34) = V8 at *
        clear hb_V8
        have m10v := hiddenG (cellG B8.out f10r.out)
        refine wp_region_gen [] (fun d i u z => match i with
            | 0 => z = .bool true
            | 1 => z = .bool true
            | 2 => z = .agg #[.int .i64 1, .int .i64 pl]
            | 3 => z = .pointer (some ⟨w.heap.size, 1, none⟩)
            | 4 => z = .slice (some ⟨eb, eo, none⟩) n c
            | 5 => z = .int .i64 (j : Int)
            | 6 => z = .pointer (some ⟨eb, eo + j * 11, none⟩)
            | 7 => z = .pointer (some ⟨eb, eo + j * 11 + 10, none⟩)
            | 8 => z = .int .i64 pl
            | 9 => z = .agg #[.int .i64 1, .int .i64 pl]
            | 10 => z = .bool true
            | 11 => z = .bool true
            | 12 => z = .bool true
            | _ => True) (fun _ u => Below V8.heap.size V8 u) (by kernel_rfl) (by kernel_rfl) (by kernel_rfl) ?_ ?_ ?_ ?_ ?_ ?_ (by kernel_rfl)
        · intro d i w v w' h hb
          match i, h with
          | 0, h => exact h
          | 1, h => exact h
          | 2, h => exact h
          | 3, h => exact h
          | 4, h => exact h
          | 5, h => exact h
          | 6, h => exact h
          | 7, h => exact h
          | 8, h => exact h
          | 9, h => exact h
          | 10, h => exact h
          | 11, h => exact h
          | 12, h => exact h
          | _ + 13, _ => trivial
        · intro d u u' h hb
          exact h.trans (hb.mono h.size)
        · exact Below.refl _ _
        · intro d i o ρ w' hm ho hf hg hC hcs hfs hfr hdep
          match i, hm, ho, hf, hg, hfr, hdep with
          | 0, _, ho, hf, hg, hfr, hdep =>
            simp only [gTA, gCZ, gSI] at ho
            subst ho
            refine ⟨fun _ => ?_, fun hw => absurd (show true = false from hw) (by decide)⟩
            simp [go_sem, hfs]
            exact ⟨rfl, (AW.out w').mono fun e w'' hh => ⟨_, hh.1, hh.2, rfl⟩⟩
          | 1, _, ho, hf, hg, hfr, hdep =>
            simp only [gTA, gCZ, gCS, gSI] at ho
            subst ho
            refine ⟨fun _ => ?_, fun hw => absurd (show true = false from hw) (by decide)⟩
            have d0 : ρ (.tmp 43) = .bool true := hdep 0 43 (by kernel_rfl) (by kernel_rfl)
            simp [go_sem, d0]
            exact ⟨Below.refl _ _, rfl⟩
          | 2, _, ho, hf, hg, hfr, hdep =>
            simp only [gTA, gCZ, gCS, gSI] at ho
            subst ho
            have gd : ρ (.tmp 44) = .bool true := hdep 1 44 (by kernel_rfl) (by kernel_rfl)
            refine ⟨fun _ => ?_, fun hw => absurd (show (match ρ (.tmp 44) with | .bool c => c == true | _ => false) = false from hw) (by rw [gd]; decide)⟩
            clear gd
            have q := (FV8.out.below hC)
            have s0 : w'.cell? ⟨t4 + 1, 0, none⟩ = some (.int .i64 1) := q.cell rfl
            have s1 : w'.cell? ⟨t4 + 1, 1, none⟩ = some (.int .i64 pl) := q.cell rfl
            have ts : ρ (.tmp 5) = .pointer (some ⟨t4 + 1, 0, none⟩) := hfr 5 (by kernel_rfl)
            simp [go_sem, ts, s0, s1]
            exact ⟨Below.refl _ _, rfl⟩
          | 3, _, ho, hf, hg, hfr, hdep =>
            simp only [gTA, gCZ, gCS, gSI] at ho
            subst ho
            have gd : ρ (.tmp 44) = .bool true := hdep 1 44 (by kernel_rfl) (by kernel_rfl)
            refine ⟨fun _ => ?_, fun hw => absurd (show (match ρ (.tmp 44) with | .bool c => c == true | _ => false) = false from hw) (by rw [gd]; decide)⟩
            clear gd
            have ts : ρ (.tmp 1) = .pointer (some ⟨w.heap.size, 0, none⟩) := hfr 1 (by kernel_rfl)
            simp [go_sem, ts]
            exact ⟨Below.refl _ _, rfl⟩
          | 4, _, ho, hf, hg, hfr, hdep =>
            simp only [gTA, gCZ, gCS, gSI] at ho
            subst ho
            have gd : ρ (.tmp 44) = .bool true := hdep 1 44 (by kernel_rfl) (by kernel_rfl)
            refine ⟨fun _ => ?_, fun hw => absurd (show (match ρ (.tmp 44) with | .bool c => c == true | _ => false) = false from hw) (by rw [gd]; decide)⟩
            clear gd
            have cc : w'.cell? ⟨w.heap.size, 1, none⟩ = some (.slice (some ⟨eb, eo, none⟩) n c) := (X8.out.below hC).cell rfl
            have d0 : ρ (.tmp 46) = .pointer (some ⟨w.heap.size, 1, none⟩) := hdep 3 46 (by kernel_rfl) (by kernel_rfl)
            simp [go_sem, d0, cc]
            exact ⟨Below.refl _ _, rfl⟩
          | 5, _, ho, hf, hg, hfr, hdep =>
            simp only [gTA, gCZ, gCS, gSI] at ho
            subst ho
            have gd : ρ (.tmp 44) = .bool true := hdep 1 44 (by kernel_rfl) (by kernel_rfl)
            refine ⟨fun _ => ?_, fun hw => absurd (show (match ρ (.tmp 44) with | .bool c => c == true | _ => false) = false from hw) (by rw [gd]; decide)⟩
            clear gd
            have ts : ρ (.tmp 3) = .int .i64 (j : Int) := hfr 3 (by kernel_rfl)
            simp [go_sem, ts]
            exact ⟨Below.refl _ _, rfl⟩
          | 6, _, ho, hf, hg, hfr, hdep =>
            simp only [gTA, gCZ, gCS, gSI] at ho
            subst ho
            have gd : ρ (.tmp 44) = .bool true := hdep 1 44 (by kernel_rfl) (by kernel_rfl)
            refine ⟨fun _ => ?_, fun hw => absurd (show (match ρ (.tmp 44) with | .bool c => c == true | _ => false) = false from hw) (by rw [gd]; decide)⟩
            clear gd
            have d0 : ρ (.tmp 47) = .slice (some ⟨eb, eo, none⟩) n c := hdep 4 47 (by kernel_rfl) (by kernel_rfl)
            have d1 : ρ (.tmp 48) = .int .i64 (j : Int) := hdep 5 48 (by kernel_rfl) (by kernel_rfl)
            simp [go_sem, d0, d1, hkl]
            exact ⟨Below.refl _ _, rfl⟩
          | 7, _, ho, hf, hg, hfr, hdep =>
            simp only [gTA, gCZ, gCS, gSI] at ho
            subst ho
            have gd : ρ (.tmp 44) = .bool true := hdep 1 44 (by kernel_rfl) (by kernel_rfl)
            refine ⟨fun _ => ?_, fun hw => absurd (show (match ρ (.tmp 44) with | .bool c => c == true | _ => false) = false from hw) (by rw [gd]; decide)⟩
            clear gd
            have d0 : ρ (.tmp 49) = .pointer (some ⟨eb, eo + j * 11, none⟩) := hdep 6 49 (by kernel_rfl) (by kernel_rfl)
            simp [go_sem, d0]
            exact ⟨Below.refl _ _, rfl⟩
          | 8, _, ho, hf, hg, hfr, hdep =>
            simp only [gTA, gCZ, gCS, gSI] at ho
            subst ho
            have gd : ρ (.tmp 44) = .bool true := hdep 1 44 (by kernel_rfl) (by kernel_rfl)
            refine ⟨fun _ => ?_, fun hw => absurd (show (match ρ (.tmp 44) with | .bool c => c == true | _ => false) = false from hw) (by rw [gd]; decide)⟩
            clear gd
            have cc := cellG hC m10v.out
            have d0 : ρ (.tmp 50) = .pointer (some ⟨eb, eo + j * 11 + 10, none⟩) := hdep 7 50 (by kernel_rfl) (by kernel_rfl)
            simp [go_sem, d0, cc]
            exact ⟨Below.refl _ _, rfl⟩
          | 9, _, ho, hf, hg, hfr, hdep =>
            simp only [gTA, gCZ, gCS, gSI] at ho
            subst ho
            have gd : ρ (.tmp 44) = .bool true := hdep 1 44 (by kernel_rfl) (by kernel_rfl)
            refine ⟨fun _ => ?_, fun hw => absurd (show (match ρ (.tmp 44) with | .bool c => c == true | _ => false) = false from hw) (by rw [gd]; decide)⟩
            clear gd
            have d0 : ρ (.tmp 51) = .int .i64 pl := hdep 8 51 (by kernel_rfl) (by kernel_rfl)
            simp [go_sem, d0, hcs]
            exact ⟨Below.refl _ _, rfl⟩
          | 10, _, ho, hf, hg, hfr, hdep =>
            simp only [gTA, gCZ, gCS, gSI] at ho
            subst ho
            have gd : ρ (.tmp 44) = .bool true := hdep 1 44 (by kernel_rfl) (by kernel_rfl)
            refine ⟨fun _ => ?_, fun hw => absurd (show (match ρ (.tmp 44) with | .bool c => c == true | _ => false) = false from hw) (by rw [gd]; decide)⟩
            clear gd
            have d0 : ρ (.tmp 45) = .agg #[.int .i64 1, .int .i64 pl] := hdep 2 45 (by kernel_rfl) (by kernel_rfl)
            have d1 : ρ (.tmp 52) = .agg #[.int .i64 1, .int .i64 pl] := hdep 9 52 (by kernel_rfl) (by kernel_rfl)
            simp [go_sem, d0, d1]
            exact ⟨Below.refl _ _, rfl⟩
          | 11, _, ho, hf, hg, hfr, hdep =>
            simp only [gTA, gCZ, gCS, gSI] at ho
            subst ho
            refine ⟨fun _ => ?_, fun hw => absurd (show true = false from hw) (by decide)⟩
            have d0 : ρ (.tmp 44) = .bool true := hdep 1 44 (by kernel_rfl) (by kernel_rfl)
            have d1 : ρ (.tmp 53) = .bool true := hdep 10 53 (by kernel_rfl) (by kernel_rfl)
            simp [go_sem, d0, d1, hcs]
            exact ⟨Below.refl _ _, rfl⟩
          | 12, _, ho, hf, hg, hfr, hdep =>
            simp only [gTA, gCZ, gCS, gSI] at ho
            subst ho
            refine ⟨fun _ => ?_, fun hw => absurd (show true = false from hw) (by decide)⟩
            have d0 : ρ (.tmp 54) = .bool true := hdep 11 54 (by kernel_rfl) (by kernel_rfl)
            simp [go_sem, d0]
            exact ⟨Below.refl _ _, rfl⟩
          | n + 13, _, ho, _, _, _, _ => simp at ho
        · intro d i o ρ w' hm ho h0 hf hg hC hcs hfs hfr hdep
          exact absurd hm (by simp)
        · intro V9 w9 hC9 hS
          have e0 : V9 0 = .bool true := hS 0 (by decide) (by intro h; cases h)
          have e1 : V9 1 = .bool true := hS 1 (by decide) (by intro h; cases h)
          have e2 : V9 2 = .agg #[.int .i64 1, .int .i64 pl] := hS 2 (by decide) (by intro h; cases h)
          have e3 : V9 3 = .pointer (some ⟨w.heap.size, 1, none⟩) := hS 3 (by decide) (by intro h; cases h)
          have e4 : V9 4 = .slice (some ⟨eb, eo, none⟩) n c := hS 4 (by decide) (by intro h; cases h)
          have e5 : V9 5 = .int .i64 (j : Int) := hS 5 (by decide) (by intro h; cases h)
          have e6 : V9 6 = .pointer (some ⟨eb, eo + j * 11, none⟩) := hS 6 (by decide) (by intro h; cases h)
          have e7 : V9 7 = .pointer (some ⟨eb, eo + j * 11 + 10, none⟩) := hS 7 (by decide) (by intro h; cases h)
          have e8 : V9 8 = .int .i64 pl := hS 8 (by decide) (by intro h; cases h)
          have e9 : V9 9 = .agg #[.int .i64 1, .int .i64 pl] := hS 9 (by decide) (by intro h; cases h)
          have e10 : V9 10 = .bool true := hS 10 (by decide) (by intro h; cases h)
          have e11 : V9 11 = .bool true := hS 11 (by decide) (by intro h; cases h)
          have e12 : V9 12 = .bool true := hS 12 (by decide) (by intro h; cases h)
          simp only [puts, e0, e1, e2, e3, e4, e5, e6, e7, e8, e9, e10, e11, e12]
          simp only [Act.put, List.setIfInBounds_toArray, List.set_cons_zero, List.set_cons_succ]
          clear hS e0 e1 e2 e3 e4 e5 e6 e7 e8 e9 e10 e11 e12
          have B9 := hiddenG (B8.out.trans (hC9.mono B8.out.size))
          clear hC9
          go_wp2
          go_ret
          exact ⟨by first | rfl | simp, B9.out⟩
      have h5 : ¬ ki > 4 := h4
      go_wp2
      go_roundg (n - (j + 1))
      case measure => omega
      case rel =>
        refine ⟨j + 1, by omega, rfl, by first | rfl | go_num, rfl, fun i hi => ?_⟩
        by_cases e : i < j
        · exact HG.out i e
        · have e2 : i = j := by omega
          subst e2
          unfold lessK
          rw [HKI.out]
          simp
          omega
    · have ej : j = n := by omega
      subst ej
      have hji : ¬ ((j : Int) < (j : Int)) := by omega
      have hla := less_all (L := L) (fun k hk => HG.out k (by rw [HL.out] at hk; exact hk))
      have HKF := hiddenG hla.1
      have CL : Hid (∀ U, Below w.heap.size w U → Calls Try.prog 14 #[.agg #[.string (str nm), .slice a j c]] U (OwnKE nm ((L.map Prod.fst).map cleanI) U)) := fun U hU => clean_own nm a j c L U (HA.out.below hU) hn HM.out hla.2 SML.out
      have HLEN : Hid (L.length ≤ 1048576) := by rw [HL.out]; exact hn
      have KSL : Hid ((sortL ((L.map Prod.fst).map cleanI)).length ≤ 1048576) := Nat.le_trans (sort_len _) (by rw [List.length_map, List.length_map]; exact HLEN.out)
      have SO : Hid (∀ U v, OwnK nm ((L.map Prod.fst).map cleanI) U v → Calls Try.prog 13 #[v] U (OwnKE nm (sortL ((L.map Prod.fst).map cleanI)) U)) := fun U v hv => sorted_own nm ((L.map Prod.fst).map cleanI) (by rw [List.length_map, List.length_map]; exact HLEN.out) v U hv
      clear hla HG
      obtain ⟨n, hnj⟩ : ∃ q, q = j := ⟨_, rfl⟩
      subst hnj
      by_cases h0 : (buildS nm (L.map Prod.fst)).2.1 = 0
      · skip
        obtain ⟨hB1, hC0⟩ := build_zero h0
        have hB2 : buildS nm (sortL ((L.map Prod.fst).map cleanI)) = (lookS nm (L.map Prod.fst), 0, 0) := (build_sort nm (L.map Prod.fst) HKF.out).trans hB1
        have hGn : (lookS nm (L.map Prod.fst)).name = nm := rfl
        have HS := hiddenG ((sound_iff _).1 hC0)
        have ALD : Hid (∀ Q, Q.map Prod.fst = drawS (lookS nm (L.map Prod.fst)) → ∀ ta tc U, ItR U ta Q → ∀ v, OwnK nm (sortL ((L.map Prod.fst).map cleanI)) U v → Calls Try.prog 17 #[.agg #[.string (str nm), .slice ta Q.length tc], v] U fun e w' => e = .returned (.bool true) ∧ Below U.heap.size U w') := fun Q hQ ta tc U hI v hv => alike_drawn nm HM.out hC0 hQ ta tc U hI v hv
        have HC0 := hiddenG hC0
        generalize lookS nm (L.map Prod.fst) = G at *
        clear h0 hC0
        have BY : Hid (∀ U la n' lc M, (M.map Prod.fst = L.map Prod.fst ∨ M.map Prod.fst = sortL ((L.map Prod.fst).map cleanI)) → M.length = n' → ItR U la M → ItO U M → Calls Try.prog 7 #[.agg #[.string (str nm), .slice la n' lc]] U (BldY nm G U)) := fun U la n' lc M h1 h2 h3 h4 => by
          have e : buildS nm (M.map Prod.fst) = (G, 0, 0) := by
            rcases h1 with h1 | h1
            · rw [h1]; exact hB1
            · rw [h1]; exact hB2
          have l : n' ≤ 4 * 1048576 ∧ n' ≤ 2000000 := by
            have hl := HLEN.out
            rcases h1 with h1 | h1
            · have e := congrArg List.length h1; simp at e; omega
            · have e := congrArg List.length h1; rw [List.length_map] at e; have := KSL.out; omega
          exact build_yes nm la n' lc M U h2 h3 h4 l.2 hGn HS.out e
        clear hB1 hB2
        have CK0 : Hid (∀ U x1 x2 x3 x4 d1 d2 d3 d4, GrG U x1 x2 x3 x4 G → Calls Try.prog 16 #[.agg #[.string (str nm), .slice x1 G.actors.length d1, .slice x2 G.edges.length d2, .slice x3 G.ins.length d3, .slice x4 G.outs.length d4]] U fun e w' => e = .returned (.int .i64 0) ∧ Below U.heap.size U w') := fun U x1 x2 x3 x4 d1 d2 d3 d4 hg => by
          have q := check_any G x1 x2 x3 x4 d1 d2 d3 d4 U hg
          rw [HC0.out, hGn] at q
          exact q
        have DR : Hid (∀ U x1 x2 x3 x4 d1 d2 d3 d4, GrG U x1 x2 x3 x4 G → Calls Try.prog 15 #[.agg #[.string (str nm), .slice x1 G.actors.length d1, .slice x2 G.edges.length d2, .slice x3 G.ins.length d3, .slice x4 G.outs.length d4]] U fun e w' => ∃ a c M, e = .returned (.tuple #[.agg #[.string (str nm), .slice a M.length c], .int .i64 0]) ∧ M.map Prod.fst = drawS G ∧ Its U.heap.size w' (.slice a M.length c) M ∧ Below U.heap.size U w') := fun U x1 x2 x3 x4 d1 d2 d3 d4 hg => by
          have q := draw_yes G HS.out x1 x2 x3 x4 d1 d2 d3 d4 U hg
          rw [hGn] at q
          exact q
        go_upto_region 10 with (first
          | (go_at_call 7; (with_reducible refine (BY.out _ _ _ _ _ (Or.inl HMP.out) HML.out HIR.out HIO.out).mono ?_); rintro e w3 ⟨z1, z2, z3, z4, f1, f2, f3, f4, rfl, hg, b3⟩; have G3 := hiddenG hg; have B3 := hiddenG (B2.out.trans (b3.mono B2.out.size)); have X3 := hiddenG (X2.out.below b3); clear hg b3)
          | (go_at_call 6; (with_reducible refine (LN.out W1 L1.out).mono ?_); rintro e w2 ⟨la, lc, M, rfl, hM, hML, hI, hO, b2⟩; have HMP := hiddenG hM; have HML := hiddenG hML; have HIR := hiddenG hI; have HIO := hiddenG hO; have B2 := hiddenG (L1.out.trans (b2.mono L1.out.size)); have X2 := hiddenG (X1.out.below b2); clear hM hML hI hO b2 y0 y1))
        clear B2 X2 HMP HML HIR HIO
        have bv := ((Below.refl w3.heap.size w3).alloc (Nat.le_refl _) (.cells #[.string (str nm), .slice z1 G.actors.length f1, .slice z2 G.edges.length f2, .slice z3 G.ins.length f3, .slice z4 G.outs.length f4] 31)).alloc (by simp) (.cells #[.int .i64 0, .int .i64 0] 34)
        have HV8 := hiddenG ((blkA_new 31 w3 #[.string (str nm), .slice z1 G.actors.length f1, .slice z2 G.edges.length f2, .slice z3 G.ins.length f3, .slice z4 G.outs.length f4]).below ((Below.refl _ _).alloc (Nat.le_refl _) (.cells #[.int .i64 0, .int .i64 0] 34)))
        have FV8 : Hid (BlkA 34 (w3.heap.size + 1) ((w3.alloc (.cells #[.string (str nm), .slice z1 G.actors.length f1, .slice z2 G.edges.length f2, .slice z3 G.ins.length f3, .slice z4 G.outs.length f4] 31)).alloc (.cells #[.int .i64 0, .int .i64 0] 34)) #[.int .i64 0, .int .i64 0]) := by
          have q := blkA_new 34 (w3.alloc (.cells #[.string (str nm), .slice z1 G.actors.length f1, .slice z2 G.edges.length f2, .slice z3 G.ins.length f3, .slice z4 G.outs.length f4] 31)) #[.int .i64 0, .int .i64 0]
          rw [World.size_alloc] at q
          exact q
        have X8 := hiddenG (X3.out.below bv)
        have B8 := hiddenG (B3.out.trans (bv.mono B3.out.size))
        have G8 := hiddenG (G3.out.below bv)
        clear bv X3 B3 G3
        generalize hb_V8 : w3.heap.size = t6 at *
        generalize (w3.alloc (.cells #[.string (str nm), .slice z1 G.actors.length f1, .slice z2 G.edges.length f2, .slice z3 G.ins.length f3, .slice z4 G.outs.length f4] 31)).alloc (.cells #[.int .i64 0, .int .i64 0] 34) = V8 at *
        clear hb_V8
        have y0 := X8.out.cell (k := 0) rfl
        have y1 := X8.out.cell (k := 1) rfl
        simp only [List.getElem_toArray, List.getElem_cons_zero, List.getElem_cons_succ] at y0 y1
        go_upto_region 11 with (first
          | (go_at_call 7; (with_reducible refine (BY.out _ _ _ _ _ (Or.inr HSM.out) rfl HSI.out HSO.out).mono ?_); rintro e w6 ⟨x1, x2, x3, x4, d1, d2, d3, d4, rfl, hg, b6⟩; have K6 := hiddenG hg; have B6 := hiddenG (B5.out.trans (b6.mono B5.out.size)); have X6 := hiddenG (X5.out.below b6); have H6 := hiddenG (H5.out.below b6); have F6 := hiddenG (F5.out.below b6); have G6 := hiddenG (G5.out.below b6); clear hg b6)
          | (go_at_call 13; (with_reducible refine (SO.out _ _ HCV.out).mono ?_); rintro e w5 ⟨sv, rfl, b5, hsv⟩; obtain ⟨sa, sc, S, rfl, hS, hSI, hSO⟩ := hsv; have HSM := hiddenG hS; have HSI := hiddenG hSI; have HSO := hiddenG hSO; have B5 := hiddenG (B4.out.trans (b5.mono B4.out.size)); have X5 := hiddenG (X4.out.below b5); have H5 := hiddenG (H4.out.below b5); have F5 := hiddenG (F4.out.below b5); have G5 := hiddenG (G4.out.below b5); clear hS hSI hSO b5)
          | (go_at_call 14; (with_reducible refine (CL.out _ B8.out).mono ?_); rintro e w4 ⟨cv, rfl, b4, hcv⟩; have HCV := hiddenG hcv; have B4 := hiddenG (B8.out.trans (b4.mono B8.out.size)); have X4 := hiddenG (X8.out.below b4); have H4 := hiddenG (HV8.out.below b4); have F4 := hiddenG (FV8.out.below b4); have G4 := hiddenG (G8.out.below b4); clear hcv b4 y0 y1))
        clear H4 F4 H5 F5 G4 G5 B4 B5 X4 X5 HV8 FV8 G8 B8 X8 HSM HSI HSO HCV
        have bv := ((Below.refl w6.heap.size w6).alloc (Nat.le_refl _) (.cells #[.string (str nm), .slice x1 G.actors.length d1, .slice x2 G.edges.length d2, .slice x3 G.ins.length d3, .slice x4 G.outs.length d4] 31)).alloc (by simp) (.cells #[.int .i64 0, .int .i64 0] 34)
        have HV9 := hiddenG ((blkA_new 31 w6 #[.string (str nm), .slice x1 G.actors.length d1, .slice x2 G.edges.length d2, .slice x3 G.ins.length d3, .slice x4 G.outs.length d4]).below ((Below.refl _ _).alloc (Nat.le_refl _) (.cells #[.int .i64 0, .int .i64 0] 34)))
        have FV9 : Hid (BlkA 34 (w6.heap.size + 1) ((w6.alloc (.cells #[.string (str nm), .slice x1 G.actors.length d1, .slice x2 G.edges.length d2, .slice x3 G.ins.length d3, .slice x4 G.outs.length d4] 31)).alloc (.cells #[.int .i64 0, .int .i64 0] 34)) #[.int .i64 0, .int .i64 0]) := by
          have q := blkA_new 34 (w6.alloc (.cells #[.string (str nm), .slice x1 G.actors.length d1, .slice x2 G.edges.length d2, .slice x3 G.ins.length d3, .slice x4 G.outs.length d4] 31)) #[.int .i64 0, .int .i64 0]
          rw [World.size_alloc] at q
          exact q
        have X9 := hiddenG (X6.out.below bv)
        have B9 := hiddenG (B6.out.trans (bv.mono B6.out.size))
        have G9 := hiddenG (G6.out.below bv)
        have K9 := hiddenG (K6.out.below bv)
        have H9 := hiddenG (H6.out.below bv)
        have F9 := hiddenG (F6.out.below bv)
        clear bv X6 B6 G6 K6 H6 F6
        generalize hb_V9 : w6.heap.size = t8 at *
        generalize (w6.alloc (.cells #[.string (str nm), .slice x1 G.actors.length d1, .slice x2 G.edges.length d2, .slice x3 G.ins.length d3, .slice x4 G.outs.length d4] 31)).alloc (.cells #[.int .i64 0, .int .i64 0] 34) = V9 at *
        clear hb_V9
        have SG : Hid (Calls Try.prog 9 #[.agg #[.string (str nm), .slice z1 G.actors.length f1, .slice z2 G.edges.length f2, .slice z3 G.ins.length f3, .slice z4 G.outs.length f4], .agg #[.string (str nm), .slice x1 G.actors.length d1, .slice x2 G.edges.length d2, .slice x3 G.ins.length d3, .slice x4 G.outs.length d4]] V9 fun e w' => e = .returned (.bool true) ∧ Below V9.heap.size V9 w') := by
          have q1 := G9.out
          have q2 := K9.out
          have ql := grG_len q1
          have q := sameGraph_any G z1 z2 z3 z4 x1 x2 x3 x4 f1 f2 f3 f4 d1 d2 d3 d4 V9 q1.A.at q1.E.at q1.I q1.O q2.A.at q2.E.at q2.I q2.O q1.l1 q1.l2 q1.l3 q1.l4 ql.1 ql.2
          rw [hGn] at q
          exact q
        have HX : Hid (∀ U, Below V9.heap.size V9 U → (U.cell? ⟨t6, 0, none⟩ = some (.string (str nm)) ∧ U.cell? ⟨t6, 1, none⟩ = some (.slice z1 G.actors.length f1) ∧ U.cell? ⟨t6, 2, none⟩ = some (.slice z2 G.edges.length f2) ∧ U.cell? ⟨t6, 3, none⟩ = some (.slice z3 G.ins.length f3) ∧ U.cell? ⟨t6, 4, none⟩ = some (.slice z4 G.outs.length f4)) ∧ (U.cell? ⟨t6 + 1, 0, none⟩ = some (.int .i64 0) ∧ U.cell? ⟨t6 + 1, 1, none⟩ = some (.int .i64 0)) ∧ (U.cell? ⟨t8, 0, none⟩ = some (.string (str nm)) ∧ U.cell? ⟨t8, 1, none⟩ = some (.slice x1 G.actors.length d1) ∧ U.cell? ⟨t8, 2, none⟩ = some (.slice x2 G.edges.length d2) ∧ U.cell? ⟨t8, 3, none⟩ = some (.slice x3 G.ins.length d3) ∧ U.cell? ⟨t8, 4, none⟩ = some (.slice x4 G.outs.length d4)) ∧ (U.cell? ⟨t8 + 1, 0, none⟩ = some (.int .i64 0) ∧ U.cell? ⟨t8 + 1, 1, none⟩ = some (.int .i64 0))) := fun U hb => by
          have q0 := H9.out.below hb
          have q1 := F9.out.below hb
          have q2 := HV9.out.below hb
          have q3 := FV9.out.below hb
          exact ⟨⟨q0.cell rfl, q0.cell rfl, q0.cell rfl, q0.cell rfl, q0.cell rfl⟩, ⟨q1.cell rfl, q1.cell rfl⟩, ⟨q2.cell rfl, q2.cell rfl, q2.cell rfl, q2.cell rfl, q2.cell rfl⟩, ⟨q3.cell rfl, q3.cell rfl⟩⟩
        have HX0 := HX.out V9 (Below.refl _ _)
        obtain ⟨⟨u0, u1, u2, u3, u4⟩, ⟨v0, v1⟩, ⟨s0, s1, s2, s3, s4⟩, ⟨r0, r1⟩⟩ := HX0
        go_upto_region 15 with (go_at_call 9; (with_reducible refine SG.out.mono ?_); rintro e w7 ⟨rfl, b7⟩; have B7 := hiddenG (B9.out.trans (b7.mono B9.out.size)); have X7 := hiddenG (X9.out.below b7); have G7 := hiddenG (G9.out.below b7); have H7 := hiddenG (H9.out.below b7); clear u0 u1 u2 u3 u4 v0 v1 s0 s1 s2 s3 s4 r0 r1; obtain ⟨⟨u0, u1, u2, u3, u4⟩, ⟨v0, v1⟩, ⟨s0, s1, s2, s3, s4⟩, ⟨r0, r1⟩⟩ := HX.out w7 b7; clear b7)
        clear s0 s1 s2 s3 s4 r0 r1 v0 v1 HX SG HV9 FV9 K9 F9 H9 X9 B9 G9
        go_upto_region 16 with (go_at_call 15; (with_reducible refine (DR.out _ _ _ _ _ _ _ _ _ G7.out).mono ?_); rintro e wd ⟨ta, tc, Q, rfl, hQ, hQI, bd⟩; have HQ := hiddenG hQ; have HQI := hiddenG hQI; have BD := hiddenG (B7.out.trans (bd.mono B7.out.size)); have XD := hiddenG (X7.out.below bd); have GD := hiddenG (G7.out.below bd); have HD := hiddenG (H7.out.below bd); clear hQ hQI bd u0 u1 u2 u3 u4)
        have bv := (Below.refl wd.heap.size wd).alloc (Nat.le_refl _) (.cells #[.string (str nm), .slice ta Q.length tc] 24)
        have TB := hiddenG (blkA_new 24 wd #[.string (str nm), .slice ta Q.length tc])
        have BB := hiddenG (BD.out.trans (bv.mono BD.out.size))
        have XB := hiddenG (XD.out.below bv)
        have GB := hiddenG (GD.out.below bv)
        have HB := hiddenG (HD.out.below bv)
        have QI := hiddenG (HQI.out.at5.below bv)
        clear bv HQI BD XD GD HD X7 G7 H7 B7
        generalize hb_d : wd.heap.size = t10 at *
        generalize wd.alloc (.cells #[.string (str nm), .slice ta Q.length tc] 24) = VV at *
        clear hb_d
        have CK : Hid (∀ U, Below VV.heap.size VV U → Calls Try.prog 16 #[.agg #[.string (str nm), .slice z1 G.actors.length f1, .slice z2 G.edges.length f2, .slice z3 G.ins.length f3, .slice z4 G.outs.length f4]] U fun e w' => e = .returned (.int .i64 0) ∧ Below U.heap.size U w') := fun U hb => CK0.out U z1 z2 z3 z4 f1 f2 f3 f4 (GB.out.below hb)
        have CLV : Hid (∀ U, Below VV.heap.size VV U → Calls Try.prog 14 #[.agg #[.string (str nm), .slice a n c]] U (OwnKE nm ((L.map Prod.fst).map cleanI) U)) := fun U hb => CL.out U (BB.out.trans (hb.mono BB.out.size))
        have AL : Hid (∀ U, Below VV.heap.size VV U → ∀ v, OwnK nm (sortL ((L.map Prod.fst).map cleanI)) U v → Calls Try.prog 17 #[.agg #[.string (str nm), .slice ta Q.length tc], v] U fun e w' => e = .returned (.bool true) ∧ Below U.heap.size U w') := fun U hb v hv => ALD.out Q HQ.out ta tc U (QI.out.below hb) v hv
        clear CK0 CL ALD QI HQ BY DR GB
        refine wp_region_gen [] (fun d i u z => match i with
            | 0 => z = .bool true
            | 1 => z = .bool true
            | 2 => z = .agg #[.string (str nm), .slice z1 G.actors.length f1, .slice z2 G.edges.length f2, .slice z3 G.ins.length f3, .slice z4 G.outs.length f4]
            | 3 => z = .int .i64 0
            | 4 => z = .bool true
            | 5 => z = .bool true
            | 6 => z = .bool true
            | 7 => z = .int .i64 0
            | 8 => z = .bool true
            | 9 => z = .bool true
            | 10 => z = .bool true
            | 11 => z = .agg #[.string (str nm), .slice ta Q.length tc]
            | 12 => z = .agg #[.string (str nm), .slice a n c]
            | 13 => OwnK nm ((L.map Prod.fst).map cleanI) u z
            | 14 => OwnK nm (sortL ((L.map Prod.fst).map cleanI)) u z
            | 15 => z = .bool true
            | 16 => z = .bool true
            | 17 => z = .bool true
            | _ => True) (fun _ u => Below VV.heap.size VV u) (by kernel_rfl) (by kernel_rfl) (by kernel_rfl) ?_ ?_ ?_ ?_ ?_ ?_ (by kernel_rfl)
        · intro d i w v w' h hb
          match i, h with
          | 0, h => exact h
          | 1, h => exact h
          | 2, h => exact h
          | 3, h => exact h
          | 4, h => exact h
          | 5, h => exact h
          | 6, h => exact h
          | 7, h => exact h
          | 8, h => exact h
          | 9, h => exact h
          | 10, h => exact h
          | 11, h => exact h
          | 12, h => exact h
          | 13, h => exact h.later hb
          | 14, h => exact h.later hb
          | 15, h => exact h
          | 16, h => exact h
          | 17, h => exact h
          | _ + 18, _ => trivial
        · intro d u u' h hb
          exact h.trans (hb.mono h.size)
        · exact Below.refl _ _
        · intro d i o ρ w' hm ho hf hg hC hcs hfs hfr hdep
          match i, hm, ho, hf, hg, hfr, hdep with
          | 0, _, ho, hf, hg, hfr, hdep =>
            simp only [gTA, gCZ, gSI] at ho
            subst ho
            refine ⟨fun _ => ?_, fun hw => absurd (show true = false from hw) (by decide)⟩
            simp [go_sem, hfs]
            exact ⟨rfl, (AW.out w').mono fun e w'' hh => ⟨_, hh.1, hh.2, rfl⟩⟩
          | 1, _, ho, hf, hg, hfr, hdep =>
            simp only [gTA, gCZ, gCS, gSI] at ho
            subst ho
            refine ⟨fun _ => ?_, fun hw => absurd (show true = false from hw) (by decide)⟩
            have d0 : ρ (.tmp 97) = .bool true := hdep 0 97 (by kernel_rfl) (by kernel_rfl)
            simp [go_sem, d0]
            exact ⟨Below.refl _ _, rfl⟩
          | 2, _, ho, hf, hg, hfr, hdep =>
            simp only [gTA, gCZ, gCS, gSI] at ho
            subst ho
            have gd : ρ (.tmp 98) = .bool true := hdep 1 98 (by kernel_rfl) (by kernel_rfl)
            refine ⟨fun _ => ?_, fun hw => absurd (show (match ρ (.tmp 98) with | .bool c => c == true | _ => false) = false from hw) (by rw [gd]; decide)⟩
            clear gd
            have q := (HB.out.below hC)
            have s0 : w'.cell? ⟨t6, 0, none⟩ = some (.string (str nm)) := q.cell rfl
            have s1 : w'.cell? ⟨t6, 1, none⟩ = some (.slice z1 G.actors.length f1) := q.cell rfl
            have s2 : w'.cell? ⟨t6, 2, none⟩ = some (.slice z2 G.edges.length f2) := q.cell rfl
            have s3 : w'.cell? ⟨t6, 3, none⟩ = some (.slice z3 G.ins.length f3) := q.cell rfl
            have s4 : w'.cell? ⟨t6, 4, none⟩ = some (.slice z4 G.outs.length f4) := q.cell rfl
            have ts : ρ (.tmp 6) = .pointer (some ⟨t6, 0, none⟩) := hfr 6 (by kernel_rfl)
            simp [go_sem, ts, s0, s1, s2, s3, s4]
            exact ⟨Below.refl _ _, rfl⟩
          | 3, _, ho, hf, hg, hfr, hdep =>
            simp only [gTA, gCZ, gCS, gSI] at ho
            subst ho
            have gd : ρ (.tmp 98) = .bool true := hdep 1 98 (by kernel_rfl) (by kernel_rfl)
            refine ⟨fun _ => ?_, fun hw => absurd (show (match ρ (.tmp 98) with | .bool c => c == true | _ => false) = false from hw) (by rw [gd]; decide)⟩
            clear gd
            have t0 : ρ (.tmp 99) = .agg #[.string (str nm), .slice z1 G.actors.length f1, .slice z2 G.edges.length f2, .slice z3 G.ins.length f3, .slice z4 G.outs.length f4] := hdep 2 99 (by kernel_rfl) (by kernel_rfl)
            simp [go_sem, t0, hfs]
            exact ⟨rfl, (CK.out w' hC).mono fun e w'' hh => ⟨_, hh.1, hh.2, rfl⟩⟩
          | 4, _, ho, hf, hg, hfr, hdep =>
            simp only [gTA, gCZ, gCS, gSI] at ho
            subst ho
            have gd : ρ (.tmp 98) = .bool true := hdep 1 98 (by kernel_rfl) (by kernel_rfl)
            refine ⟨fun _ => ?_, fun hw => absurd (show (match ρ (.tmp 98) with | .bool c => c == true | _ => false) = false from hw) (by rw [gd]; decide)⟩
            clear gd
            have d0 : ρ (.tmp 100) = .int .i64 0 := hdep 3 100 (by kernel_rfl) (by kernel_rfl)
            simp [go_sem, d0, hcs]
            exact ⟨Below.refl _ _, rfl⟩
          | 5, _, ho, hf, hg, hfr, hdep =>
            simp only [gTA, gCZ, gCS, gSI] at ho
            subst ho
            refine ⟨fun _ => ?_, fun hw => absurd (show true = false from hw) (by decide)⟩
            have d0 : ρ (.tmp 98) = .bool true := hdep 1 98 (by kernel_rfl) (by kernel_rfl)
            have d1 : ρ (.tmp 101) = .bool true := hdep 4 101 (by kernel_rfl) (by kernel_rfl)
            simp [go_sem, d0, d1, hcs]
            exact ⟨Below.refl _ _, rfl⟩
          | 6, _, ho, hf, hg, hfr, hdep =>
            simp only [gTA, gCZ, gCS, gSI] at ho
            subst ho
            refine ⟨fun _ => ?_, fun hw => absurd (show true = false from hw) (by decide)⟩
            have d0 : ρ (.tmp 102) = .bool true := hdep 5 102 (by kernel_rfl) (by kernel_rfl)
            simp [go_sem, d0]
            exact ⟨Below.refl _ _, rfl⟩
          | 7, _, ho, hf, hg, hfr, hdep =>
            simp only [gTA, gCZ, gCS, gSI] at ho
            subst ho
            have gd : ρ (.tmp 103) = .bool true := hdep 6 103 (by kernel_rfl) (by kernel_rfl)
            refine ⟨fun _ => ?_, fun hw => absurd (show (match ρ (.tmp 103) with | .bool c => c == true | _ => false) = false from hw) (by rw [gd]; decide)⟩
            clear gd
            have ts : ρ (.tmp 11) = .int .i64 0 := hfr 11 (by kernel_rfl)
            simp [go_sem, ts]
            exact ⟨Below.refl _ _, rfl⟩
          | 8, _, ho, hf, hg, hfr, hdep =>
            simp only [gTA, gCZ, gCS, gSI] at ho
            subst ho
            have gd : ρ (.tmp 103) = .bool true := hdep 6 103 (by kernel_rfl) (by kernel_rfl)
            refine ⟨fun _ => ?_, fun hw => absurd (show (match ρ (.tmp 103) with | .bool c => c == true | _ => false) = false from hw) (by rw [gd]; decide)⟩
            clear gd
            have d0 : ρ (.tmp 104) = .int .i64 0 := hdep 7 104 (by kernel_rfl) (by kernel_rfl)
            simp [go_sem, d0, hcs]
            exact ⟨Below.refl _ _, rfl⟩
          | 9, _, ho, hf, hg, hfr, hdep =>
            simp only [gTA, gCZ, gCS, gSI] at ho
            subst ho
            refine ⟨fun _ => ?_, fun hw => absurd (show true = false from hw) (by decide)⟩
            have d0 : ρ (.tmp 103) = .bool true := hdep 6 103 (by kernel_rfl) (by kernel_rfl)
            have d1 : ρ (.tmp 105) = .bool true := hdep 8 105 (by kernel_rfl) (by kernel_rfl)
            simp [go_sem, d0, d1, hcs]
            exact ⟨Below.refl _ _, rfl⟩
          | 10, _, ho, hf, hg, hfr, hdep =>
            simp only [gTA, gCZ, gCS, gSI] at ho
            subst ho
            refine ⟨fun _ => ?_, fun hw => absurd (show true = false from hw) (by decide)⟩
            have d0 : ρ (.tmp 106) = .bool true := hdep 9 106 (by kernel_rfl) (by kernel_rfl)
            simp [go_sem, d0]
            exact ⟨Below.refl _ _, rfl⟩
          | 11, _, ho, hf, hg, hfr, hdep =>
            simp only [gTA, gCZ, gCS, gSI] at ho
            subst ho
            have gd : ρ (.tmp 107) = .bool true := hdep 10 107 (by kernel_rfl) (by kernel_rfl)
            refine ⟨fun _ => ?_, fun hw => absurd (show (match ρ (.tmp 107) with | .bool c => c == true | _ => false) = false from hw) (by rw [gd]; decide)⟩
            clear gd
            have q := (TB.out.below hC)
            have s0 : w'.cell? ⟨t10, 0, none⟩ = some (.string (str nm)) := q.cell rfl
            have s1 : w'.cell? ⟨t10, 1, none⟩ = some (.slice ta Q.length tc) := q.cell rfl
            have ts : ρ (.tmp 10) = .pointer (some ⟨t10, 0, none⟩) := hfr 10 (by kernel_rfl)
            simp [go_sem, ts, s0, s1]
            exact ⟨Below.refl _ _, rfl⟩
          | 12, _, ho, hf, hg, hfr, hdep =>
            simp only [gTA, gCZ, gCS, gSI] at ho
            subst ho
            have gd : ρ (.tmp 107) = .bool true := hdep 10 107 (by kernel_rfl) (by kernel_rfl)
            refine ⟨fun _ => ?_, fun hw => absurd (show (match ρ (.tmp 107) with | .bool c => c == true | _ => false) = false from hw) (by rw [gd]; decide)⟩
            clear gd
            have q := (XB.out.below hC)
            have s0 : w'.cell? ⟨w.heap.size, 0, none⟩ = some (.string (str nm)) := q.cell rfl
            have s1 : w'.cell? ⟨w.heap.size, 1, none⟩ = some (.slice a n c) := q.cell rfl
            have ts : ρ (.tmp 1) = .pointer (some ⟨w.heap.size, 0, none⟩) := hfr 1 (by kernel_rfl)
            simp [go_sem, ts, s0, s1]
            exact ⟨Below.refl _ _, rfl⟩
          | 13, _, ho, hf, hg, hfr, hdep =>
            simp only [gTA, gCZ, gCS, gSI] at ho
            subst ho
            have gd : ρ (.tmp 107) = .bool true := hdep 10 107 (by kernel_rfl) (by kernel_rfl)
            refine ⟨fun _ => ?_, fun hw => absurd (show (match ρ (.tmp 107) with | .bool c => c == true | _ => false) = false from hw) (by rw [gd]; decide)⟩
            clear gd
            have t0 : ρ (.tmp 109) = .agg #[.string (str nm), .slice a n c] := hdep 12 109 (by kernel_rfl) (by kernel_rfl)
            simp [go_sem, t0, hfs, -List.map_map]
            exact ⟨rfl, CLV.out w' hC⟩
          | 14, _, ho, hf, hg, hfr, hdep =>
            simp only [gTA, gCZ, gCS, gSI] at ho
            subst ho
            have gd : ρ (.tmp 107) = .bool true := hdep 10 107 (by kernel_rfl) (by kernel_rfl)
            refine ⟨fun _ => ?_, fun hw => absurd (show (match ρ (.tmp 107) with | .bool c => c == true | _ => false) = false from hw) (by rw [gd]; decide)⟩
            clear gd
            have t0 : OwnK nm ((L.map Prod.fst).map cleanI) w' (ρ (.tmp 110)) := hdep 13 110 (by kernel_rfl) (by kernel_rfl)
            simp [go_sem, hfs, -List.map_map]
            exact ⟨rfl, SO.out w' _ t0⟩
          | 15, _, ho, hf, hg, hfr, hdep =>
            simp only [gTA, gCZ, gCS, gSI] at ho
            subst ho
            have gd : ρ (.tmp 107) = .bool true := hdep 10 107 (by kernel_rfl) (by kernel_rfl)
            refine ⟨fun _ => ?_, fun hw => absurd (show (match ρ (.tmp 107) with | .bool c => c == true | _ => false) = false from hw) (by rw [gd]; decide)⟩
            clear gd
            have t0 : ρ (.tmp 108) = .agg #[.string (str nm), .slice ta Q.length tc] := hdep 11 108 (by kernel_rfl) (by kernel_rfl)
            have t1 : OwnK nm (sortL ((L.map Prod.fst).map cleanI)) w' (ρ (.tmp 111)) := hdep 14 111 (by kernel_rfl) (by kernel_rfl)
            simp [go_sem, t0, hfs]
            exact ⟨rfl, (AL.out w' hC _ t1).mono fun e w'' hh => ⟨_, hh.1, hh.2, rfl⟩⟩
          | 16, _, ho, hf, hg, hfr, hdep =>
            simp only [gTA, gCZ, gCS, gSI] at ho
            subst ho
            refine ⟨fun _ => ?_, fun hw => absurd (show true = false from hw) (by decide)⟩
            have d0 : ρ (.tmp 107) = .bool true := hdep 10 107 (by kernel_rfl) (by kernel_rfl)
            have d1 : ρ (.tmp 112) = .bool true := hdep 15 112 (by kernel_rfl) (by kernel_rfl)
            simp [go_sem, d0, d1, hcs]
            exact ⟨Below.refl _ _, rfl⟩
          | 17, _, ho, hf, hg, hfr, hdep =>
            simp only [gTA, gCZ, gCS, gSI] at ho
            subst ho
            refine ⟨fun _ => ?_, fun hw => absurd (show true = false from hw) (by decide)⟩
            have d0 : ρ (.tmp 113) = .bool true := hdep 16 113 (by kernel_rfl) (by kernel_rfl)
            simp [go_sem, d0]
            exact ⟨Below.refl _ _, rfl⟩
          | n + 18, _, ho, _, _, _, _ => simp at ho
        · intro d i o ρ w' hm ho h0 hf hg hC hcs hfs hfr hdep
          exact absurd hm (by simp)
        · intro V9 w9 hC9 hS
          have e0 : V9 0 = .bool true := hS 0 (by decide) (by intro h; cases h)
          have e1 : V9 1 = .bool true := hS 1 (by decide) (by intro h; cases h)
          have e2 : V9 2 = .agg #[.string (str nm), .slice z1 G.actors.length f1, .slice z2 G.edges.length f2, .slice z3 G.ins.length f3, .slice z4 G.outs.length f4] := hS 2 (by decide) (by intro h; cases h)
          have e3 : V9 3 = .int .i64 0 := hS 3 (by decide) (by intro h; cases h)
          have e4 : V9 4 = .bool true := hS 4 (by decide) (by intro h; cases h)
          have e5 : V9 5 = .bool true := hS 5 (by decide) (by intro h; cases h)
          have e6 : V9 6 = .bool true := hS 6 (by decide) (by intro h; cases h)
          have e7 : V9 7 = .int .i64 0 := hS 7 (by decide) (by intro h; cases h)
          have e8 : V9 8 = .bool true := hS 8 (by decide) (by intro h; cases h)
          have e9 : V9 9 = .bool true := hS 9 (by decide) (by intro h; cases h)
          have e10 : V9 10 = .bool true := hS 10 (by decide) (by intro h; cases h)
          have e11 : V9 11 = .agg #[.string (str nm), .slice ta Q.length tc] := hS 11 (by decide) (by intro h; cases h)
          have e12 : V9 12 = .agg #[.string (str nm), .slice a n c] := hS 12 (by decide) (by intro h; cases h)
          have e15 : V9 15 = .bool true := hS 15 (by decide) (by intro h; cases h)
          have e16 : V9 16 = .bool true := hS 16 (by decide) (by intro h; cases h)
          have e17 : V9 17 = .bool true := hS 17 (by decide) (by intro h; cases h)
          simp only [puts, e0, e1, e2, e3, e4, e5, e6, e7, e8, e9, e10, e11, e12, e15, e16, e17]
          simp only [Act.put, List.setIfInBounds_toArray, List.set_cons_zero, List.set_cons_succ]
          clear hS e0 e1 e2 e3 e4 e5 e6 e7 e8 e9 e10 e11 e12 e15 e16 e17
          have B9 := hiddenG (BB.out.trans (hC9.mono BB.out.size))
          clear hC9
          go_wp2
          go_ret
          exact ⟨by first | rfl | simp, B9.out⟩
      · skip
        have hB2 : buildS nm (sortL ((L.map Prod.fst).map cleanI)) = buildS nm (L.map Prod.fst) := build_sort nm (L.map Prod.fst) HKF.out
        obtain ⟨cd, hcd⟩ : ∃ q, (buildS nm (L.map Prod.fst)).2.1 = q := ⟨_, rfl⟩
        obtain ⟨pl, hpl⟩ : ∃ q, (buildS nm (L.map Prod.fst)).2.2 = q := ⟨_, rfl⟩
        have hB1 : (buildS nm (L.map Prod.fst)).2 = (cd, pl) := by rw [← hcd, ← hpl]
        rw [hcd] at h0
        have BN : Hid (∀ U la n' lc M, (M.map Prod.fst = L.map Prod.fst ∨ M.map Prod.fst = sortL ((L.map Prod.fst).map cleanI)) → M.length = n' → ItR U la M → ItO U M → Calls Try.prog 7 #[.agg #[.string (str nm), .slice la n' lc]] U fun e w' => e = .returned (.tuple #[.agg #[.string ⟨#[]⟩, .slice none 0 0, .slice none 0 0, .slice none 0 0, .slice none 0 0], .agg #[.int .i64 cd, .int .i64 pl]]) ∧ Below U.heap.size U w') := fun U la n' lc M h1 h2 h3 h4 => by
          have e : (buildS nm (M.map Prod.fst)).2 = (cd, pl) := by
            rcases h1 with h1 | h1
            · rw [h1]; exact hB1
            · rw [h1, hB2]; exact hB1
          have l : n' ≤ 2000000 := by
            have hl := HLEN.out
            rcases h1 with h1 | h1
            · have e := congrArg List.length h1; simp at e; omega
            · have e := congrArg List.length h1; rw [List.length_map] at e; have := KSL.out; omega
          exact build_no nm la n' lc M U h2 h3 h4 l h0 e
        clear hB1 hB2 hcd hpl
        have hne : (cd != 0) = true := by simpa using h0
        go_upto_region 10 with (first
          | (go_at_call 7; (with_reducible refine (BN.out _ _ _ _ _ (Or.inl HMP.out) HML.out HIR.out HIO.out).mono ?_); rintro e w3 ⟨rfl, b3⟩; have B3 := hiddenG (B2.out.trans (b3.mono B2.out.size)); have X3 := hiddenG (X2.out.below b3); clear b3)
          | (go_at_call 6; (with_reducible refine (LN.out W1 L1.out).mono ?_); rintro e w2 ⟨la, lc, M, rfl, hM, hML, hI, hO, b2⟩; have HMP := hiddenG hM; have HML := hiddenG hML; have HIR := hiddenG hI; have HIO := hiddenG hO; have B2 := hiddenG (L1.out.trans (b2.mono L1.out.size)); have X2 := hiddenG (X1.out.below b2); clear hM hML hI hO b2 y0 y1))
        clear B2 X2 HMP HML HIR HIO
        have bv := ((Below.refl w3.heap.size w3).alloc (Nat.le_refl _) (.cells #[.string ⟨#[]⟩, .slice none 0 0, .slice none 0 0, .slice none 0 0, .slice none 0 0] 31)).alloc (by simp) (.cells #[.int .i64 cd, .int .i64 pl] 34)
        have HV8 := hiddenG ((blkA_new 31 w3 #[.string ⟨#[]⟩, .slice none 0 0, .slice none 0 0, .slice none 0 0, .slice none 0 0]).below ((Below.refl _ _).alloc (Nat.le_refl _) (.cells #[.int .i64 cd, .int .i64 pl] 34)))
        have FV8 : Hid (BlkA 34 (w3.heap.size + 1) ((w3.alloc (.cells #[.string ⟨#[]⟩, .slice none 0 0, .slice none 0 0, .slice none 0 0, .slice none 0 0] 31)).alloc (.cells #[.int .i64 cd, .int .i64 pl] 34)) #[.int .i64 cd, .int .i64 pl]) := by
          have q := blkA_new 34 (w3.alloc (.cells #[.string ⟨#[]⟩, .slice none 0 0, .slice none 0 0, .slice none 0 0, .slice none 0 0] 31)) #[.int .i64 cd, .int .i64 pl]
          rw [World.size_alloc] at q
          exact q
        have X8 := hiddenG (X3.out.below bv)
        have B8 := hiddenG (B3.out.trans (bv.mono B3.out.size))
        clear bv X3 B3
        generalize hb_V8 : w3.heap.size = t6 at *
        generalize (w3.alloc (.cells #[.string ⟨#[]⟩, .slice none 0 0, .slice none 0 0, .slice none 0 0, .slice none 0 0] 31)).alloc (.cells #[.int .i64 cd, .int .i64 pl] 34) = V8 at *
        clear hb_V8
        have y0 := X8.out.cell (k := 0) rfl
        have y1 := X8.out.cell (k := 1) rfl
        simp only [List.getElem_toArray, List.getElem_cons_zero, List.getElem_cons_succ] at y0 y1
        go_upto_region 11 with (first
          | (go_at_call 7; (with_reducible refine (BN.out _ _ _ _ _ (Or.inr HSM.out) rfl HSI.out HSO.out).mono ?_); rintro e w6 ⟨rfl, b6⟩; have B6 := hiddenG (B5.out.trans (b6.mono B5.out.size)); have X6 := hiddenG (X5.out.below b6); have H6 := hiddenG (H5.out.below b6); have F6 := hiddenG (F5.out.below b6); clear b6)
          | (go_at_call 13; (with_reducible refine (SO.out _ _ HCV.out).mono ?_); rintro e w5 ⟨sv, rfl, b5, hsv⟩; obtain ⟨sa, sc, S, rfl, hS, hSI, hSO⟩ := hsv; have HSM := hiddenG hS; have HSI := hiddenG hSI; have HSO := hiddenG hSO; have B5 := hiddenG (B4.out.trans (b5.mono B4.out.size)); have X5 := hiddenG (X4.out.below b5); have H5 := hiddenG (H4.out.below b5); have F5 := hiddenG (F4.out.below b5); clear hS hSI hSO b5)
          | (go_at_call 14; (with_reducible refine (CL.out _ B8.out).mono ?_); rintro e w4 ⟨cv, rfl, b4, hcv⟩; have HCV := hiddenG hcv; have B4 := hiddenG (B8.out.trans (b4.mono B8.out.size)); have X4 := hiddenG (X8.out.below b4); have H4 := hiddenG (HV8.out.below b4); have F4 := hiddenG (FV8.out.below b4); clear hcv b4 y0 y1))
        clear H4 F4 H5 F5 B4 B5 X4 X5 HV8 FV8 B8 X8 HSM HSI HSO HCV
        have bv := ((Below.refl w6.heap.size w6).alloc (Nat.le_refl _) (.cells #[.string ⟨#[]⟩, .slice none 0 0, .slice none 0 0, .slice none 0 0, .slice none 0 0] 31)).alloc (by simp) (.cells #[.int .i64 cd, .int .i64 pl] 34)
        have HV9 := hiddenG ((blkA_new 31 w6 #[.string ⟨#[]⟩, .slice none 0 0, .slice none 0 0, .slice none 0 0, .slice none 0 0]).below ((Below.refl _ _).alloc (Nat.le_refl _) (.cells #[.int .i64 cd, .int .i64 pl] 34)))
        have FV9 : Hid (BlkA 34 (w6.heap.size + 1) ((w6.alloc (.cells #[.string ⟨#[]⟩, .slice none 0 0, .slice none 0 0, .slice none 0 0, .slice none 0 0] 31)).alloc (.cells #[.int .i64 cd, .int .i64 pl] 34)) #[.int .i64 cd, .int .i64 pl]) := by
          have q := blkA_new 34 (w6.alloc (.cells #[.string ⟨#[]⟩, .slice none 0 0, .slice none 0 0, .slice none 0 0, .slice none 0 0] 31)) #[.int .i64 cd, .int .i64 pl]
          rw [World.size_alloc] at q
          exact q
        have X9 := hiddenG (X6.out.below bv)
        have B9 := hiddenG (B6.out.trans (bv.mono B6.out.size))
        have H9 := hiddenG (H6.out.below bv)
        have F9 := hiddenG (F6.out.below bv)
        clear bv X6 B6 H6 F6
        generalize hb_V9 : w6.heap.size = t8 at *
        generalize (w6.alloc (.cells #[.string ⟨#[]⟩, .slice none 0 0, .slice none 0 0, .slice none 0 0, .slice none 0 0] 31)).alloc (.cells #[.int .i64 cd, .int .i64 pl] 34) = V9 at *
        clear hb_V9
        have SG : Hid (Calls Try.prog 9 #[.agg #[.string ⟨#[]⟩, .slice none 0 0, .slice none 0 0, .slice none 0 0, .slice none 0 0], .agg #[.string ⟨#[]⟩, .slice none 0 0, .slice none 0 0, .slice none 0 0, .slice none 0 0]] V9 fun e w' => e = .returned (.bool true) ∧ Below V9.heap.size V9 w') := sameGraph_any gg0 none none none none none none none none 0 0 0 0 0 0 0 0 V9 (.inl rfl) (.inl rfl) (.inl rfl) (.inl rfl) (.inl rfl) (.inl rfl) (.inl rfl) (.inl rfl) (by decide) (by decide) (by decide) (by decide) (fun x hx => by cases hx) (fun x hx => by cases hx)
        have HX : Hid (∀ U, Below V9.heap.size V9 U → (U.cell? ⟨t6, 0, none⟩ = some (.string ⟨#[]⟩) ∧ U.cell? ⟨t6, 1, none⟩ = some (.slice none 0 0) ∧ U.cell? ⟨t6, 2, none⟩ = some (.slice none 0 0) ∧ U.cell? ⟨t6, 3, none⟩ = some (.slice none 0 0) ∧ U.cell? ⟨t6, 4, none⟩ = some (.slice none 0 0)) ∧ (U.cell? ⟨t6 + 1, 0, none⟩ = some (.int .i64 cd) ∧ U.cell? ⟨t6 + 1, 1, none⟩ = some (.int .i64 pl)) ∧ (U.cell? ⟨t8, 0, none⟩ = some (.string ⟨#[]⟩) ∧ U.cell? ⟨t8, 1, none⟩ = some (.slice none 0 0) ∧ U.cell? ⟨t8, 2, none⟩ = some (.slice none 0 0) ∧ U.cell? ⟨t8, 3, none⟩ = some (.slice none 0 0) ∧ U.cell? ⟨t8, 4, none⟩ = some (.slice none 0 0)) ∧ (U.cell? ⟨t8 + 1, 0, none⟩ = some (.int .i64 cd) ∧ U.cell? ⟨t8 + 1, 1, none⟩ = some (.int .i64 pl))) := fun U hb => by
          have q0 := H9.out.below hb
          have q1 := F9.out.below hb
          have q2 := HV9.out.below hb
          have q3 := FV9.out.below hb
          exact ⟨⟨q0.cell rfl, q0.cell rfl, q0.cell rfl, q0.cell rfl, q0.cell rfl⟩, ⟨q1.cell rfl, q1.cell rfl⟩, ⟨q2.cell rfl, q2.cell rfl, q2.cell rfl, q2.cell rfl, q2.cell rfl⟩, ⟨q3.cell rfl, q3.cell rfl⟩⟩
        have HX0 := HX.out V9 (Below.refl _ _)
        obtain ⟨⟨u0, u1, u2, u3, u4⟩, ⟨v0, v1⟩, ⟨s0, s1, s2, s3, s4⟩, ⟨r0, r1⟩⟩ := HX0
        go_wp2_with (first
          | (go_at_call 9; (with_reducible refine SG.out.mono ?_); rintro e w7 ⟨rfl, b7⟩; have B7 := hiddenG b7; clear u0 u1 u2 u3 u4 v0 v1 s0 s1 s2 s3 s4 r0 r1; obtain ⟨⟨u0, u1, u2, u3, u4⟩, ⟨v0, v1⟩, ⟨s0, s1, s2, s3, s4⟩, ⟨r0, r1⟩⟩ := HX.out w7 b7; clear b7)
          | (go_at_call 11; (with_reducible refine (AW.out _).mono ?_); rintro e wa ⟨rfl, ba⟩; have BE := hiddenG (B7.out.trans (ba.mono B7.out.size)); clear u0 u1 u2 u3 u4 v0 v1 s0 s1 s2 s3 s4 r0 r1; obtain ⟨⟨u0, u1, u2, u3, u4⟩, ⟨v0, v1⟩, ⟨s0, s1, s2, s3, s4⟩, ⟨r0, r1⟩⟩ := HX.out wa BE.out; clear ba))
        go_ret
        exact ⟨by first | rfl | simp, B9.out.trans (BE.out.mono B9.out.size)⟩
theorem Try.cells8KI : Try.prog.cellsOf 40 = 1 := by kernel_rfl
section
variable {H : Type} {enc : TypeId × Value → H} {W : World} {base : Nat} {held : Bool}
set_option maxRecDepth 100000 in
theorem item_openN {n : Nat} {cs : List Value} {y : DataW H × List MemPlace} (h : DataW.trod enc Try.prog W base (fun _ => true) held n 45 cs = some y) (hw : (y.1.weights Try.prog 45).all (· ≤ reachBytes) = true) :
    ∃ p : Itm × Value, cs = itP p ∧ ItZ W p ∧ NmZ p.1 := by
  obtain ⟨xs, k, hk, hxy, hcl, hxl, hf⟩ := DataW.trod_struct Try.underlying45 h
  rw [Try.cells5IT] at hcl
  match xs, hxl, cs, hcl with
  | [y0, y1, y2, y3, y4, y5, y6], _, [v0, v1, v2, v3, v4, v5, v6, v7, v8, v9, v10], _ =>
    have g0 := hf 0 _ rfl
    have g1 := hf 1 _ rfl
    have g2 := hf 2 _ rfl
    have g3 := hf 3 _ rfl
    have g4 := hf 4 _ rfl
    have g5 := hf 5 _ rfl
    have g6 := hf 6 _ rfl
    simp [Try.cells59, Try.cells53, Try.cells5PL, Try.cells5SL, Try.cells8KI] at g0 g1 g2 g3 g4 g5 g6
    have hw3 : (y3.1.weights Try.prog 41).all (· ≤ reachBytes) = true := by
      rw [hxy] at hw
      simp only [DataW.weights, Try.underlying45] at hw
      rw [List.all_eq_true] at hw ⊢
      exact fun m hm => hw m (DataW.weights_mem_each (j := 3) (t := 41) (d := y3.1) rfl rfl m hm)
    obtain ⟨z0, q0, -, -⟩ := DataW.trod_int Try.underlying40 g0
    have hw1 : (y1.1.weights Try.prog 9).all (· ≤ reachBytes) = true := by
      rw [hxy] at hw
      simp only [DataW.weights, Try.underlying45] at hw
      rw [List.all_eq_true] at hw ⊢
      exact fun m hm => hw m (DataW.weights_mem_each (j := 1) (t := 9) (d := y1.1) rfl rfl m hm)
    have hw4 : (y4.1.weights Try.prog 43).all (· ≤ reachBytes) = true := by
      rw [hxy] at hw
      simp only [DataW.weights, Try.underlying45] at hw
      rw [List.all_eq_true] at hw ⊢
      exact fun m hm => hw m (DataW.weights_mem_each (j := 4) (t := 43) (d := y4.1) rfl rfl m hm)
    have hw5 : (y5.1.weights Try.prog 43).all (· ≤ reachBytes) = true := by
      rw [hxy] at hw
      simp only [DataW.weights, Try.underlying45] at hw
      rw [List.all_eq_true] at hw ⊢
      exact fun m hm => hw m (DataW.weights_mem_each (j := 5) (t := 43) (d := y5.1) rfl rfl m hm)
    obtain ⟨z1, q1, e1, -⟩ := DataW.trod_string Try.underlying9 g1
    rw [e1] at hw1
    have lz1 : z1.data.toList.length ≤ 140737488355328 := by
      have hx := List.all_eq_true.1 hw1 z1.data.toList.length (by simp [DataW.weights])
      have hy := of_decide_eq_true hx
      unfold reachBytes at hy
      omega
    obtain ⟨z2, q2, -⟩ := DataW.trod_string Try.underlying9 g2
    obtain ⟨ns, a1, a2, a3, a4⟩ := nums_open g3 hw3
    obtain ⟨p4, q4, b4, n4⟩ := place_openN g4 hw4
    obtain ⟨p5, q5, b5, n5⟩ := place_openN g5 hw5
    obtain ⟨z6, q6, -, -⟩ := DataW.trod_int Try.underlying3 g6
    simp only [List.cons.injEq, and_true] at q0 q1 q2 q4 q5 q6
    obtain ⟨rfl, rfl, rfl⟩ := q4
    obtain ⟨rfl, rfl, rfl⟩ := q5
    subst q0 q1 q2 q6
    exact ⟨(⟨z0, z1.data.toList, z2.data.toList, ns, p4, p5, z6⟩, v3), rfl, ⟨a1, a2, a3, b4, b5, a4⟩, lz1, n4, n5⟩
set_option maxRecDepth 100000 in
theorem sketch_openN {r : Reach} {b0 : Nat} {v : Value} {d : DataW H} {p : List MemPlace} (hv : Value.okWide Try.prog W r b0 24 v) (h : DataW.Trod enc Try.prog W base (fun _ => true) held 24 v d p) (hw : (d.weights Try.prog 24).all (· ≤ reachBytes) = true) :
    ∃ nm a n c L, v = .agg #[.string (str nm), .slice a n c] ∧ ArgS W a n L ∧ (∀ p ∈ L, NmZ p.1) := by
  obtain ⟨cs, rfl, hsz⟩ := okWide_struct Try.underlying24 hv
  rw [Try.cells5SK] at hsz
  obtain ⟨fuel, hf⟩ := h
  obtain ⟨xs, k, hk, hxy, hcl, hxl, hf⟩ := DataW.trod_struct Try.underlying24 hf
  obtain ⟨l⟩ := cs
  match xs, hxl, l, hsz with
  | [y0, y1], _, [v0, v1], _ =>
    have g0 := hf 0 _ rfl
    have g1 := hf 1 _ rfl
    simp [Value.cells, Try.cells59, Try.cells5IS] at g0 g1
    have hw1 : (y1.1.weights Try.prog 22).all (· ≤ reachBytes) = true := by
      have hd := congrArg Prod.fst hxy
      simp only at hd
      rw [hd] at hw
      simp only [DataW.weights, Try.underlying24] at hw
      rw [List.all_eq_true] at hw ⊢
      exact fun m hm => hw m (DataW.weights_mem_each (j := 1) (t := 22) (d := y1.1) rfl rfl m hm)
    obtain ⟨z0, q0, -⟩ := DataW.trod_string Try.underlying9 g0
    simp only [List.cons.injEq, and_true] at q0
    subst q0
    rcases Deep.open_slice Try.underlying22 g1 with ⟨h1, -⟩ | ⟨x, len, cap, m, n, D, Pl, h1, -, hl, -, hm, hd, hx⟩
    · simp only [List.cons.injEq, and_true] at h1
      subst h1
      exact ⟨z0.data.toList, none, 0, 0, [], rfl, ⟨rfl, ⟨.inl rfl, fun p hp => by cases hp⟩, by decide, (fun p hp => by cases hp), (fun p hp => by cases hp), fun p hp => by cases hp⟩, fun p hp => by cases hp⟩
    · simp only [List.cons.injEq, and_true] at h1
      subst h1
      simp only [if_true] at hm
      rw [hd] at hw1
      simp only [DataW.weights, Try.underlying22, List.all_cons, List.all_append, Bool.and_eq_true, decide_eq_true_eq, Try.bytes5IT] at hw1
      obtain ⟨wr, we, -⟩ := hw1
      simp only [reachBytes, List.length_map, List.length_range] at wr
      have each : ∀ i, i < len → ∃ p : Itm × Value, W.cells? base (x.add (i * 11)) 11 = some (itP p) ∧ ItZ W p ∧ NmZ p.1 := by
        intro i hi
        obtain ⟨cs', h1, h2⟩ := hx i (by omega)
        rw [Try.cells5IT] at h1
        obtain ⟨p, rfl, hp⟩ := item_openN h2 (wAll_mem (List.mem_map.2 ⟨i, List.mem_range.2 hi, rfl⟩) we)
        exact ⟨p, h1, hp⟩
      obtain ⟨q, hq⟩ := choose5 (noItm, Value.slice none 0 0) each
      have hn : ∀ k, k < len → nthI ((List.range len).map q) k = q k := fun k hk => by
        unfold nthI; rw [List.getD_eq_getElem?_getD, List.getElem?_map, List.getElem?_range hk]; rfl
      have hmem : ∀ p ∈ (List.range len).map q, ItZ W p ∧ NmZ p.1 := fun p hp => by
        obtain ⟨i, hi, rfl⟩ := List.mem_map.1 hp
        exact (hq i (List.mem_range.1 hi)).2
      refine ⟨z0.data.toList, some x, len, cap, (List.range len).map q, rfl, ⟨by simp, ⟨?_, fun p hp => (hmem p hp).1.ints⟩, by omega, fun p hp => (hmem p hp).1.nums, fun p hp => (hmem p hp).1.shp, fun p hp => (hmem p hp).1.fits⟩, fun p hp => (hmem p hp).2⟩
      by_cases h0 : 0 < len
      · right
        have cell : ∀ i, i < len → ∀ j u, (itP (q i))[j]? = some u → W.cell? ((x.add (i * 11)).add j) = some u := fun i hi j u hu => by
          obtain ⟨_, hlen, hc⟩ := World.cells?_some (hq i hi).1
          have hj : j < 11 := by
            have := (List.getElem?_eq_some_iff.1 hu).1
            have e : (itP (q i)).length = 11 := rfl
            omega
          rw [hc j hj, hu]
        have hs := off_none (W := W) (x := x.add (0 * 11)) (cell 0 h0 0 _ rfl)
        obtain ⟨b, off, sp⟩ := x
        simp [Addr.add] at hs
        subst hs
        refine ⟨b, off, rfl, fun k hk => ?_⟩
        have hk' : k < len := by simpa using hk
        rw [hn k hk']
        have c := cell k hk'
        rw [Addr.add_lit] at c
        exact ⟨by simpa [Addr.add_lit] using c 0 _ rfl, by simpa [Addr.add_lit] using c 1 _ rfl, by simpa [Addr.add_lit] using c 2 _ rfl, by simpa [Addr.add_lit] using c 3 _ rfl, by simpa [Addr.add_lit] using c 4 _ rfl, by simpa [Addr.add_lit] using c 5 _ rfl, by simpa [Addr.add_lit] using c 6 _ rfl, by simpa [Addr.add_lit] using c 7 _ rfl, by simpa [Addr.add_lit] using c 8 _ rfl, by simpa [Addr.add_lit] using c 9 _ rfl, by simpa [Addr.add_lit] using c 10 _ rfl⟩
      · left
        have e : len = 0 := by omega
        subst e
        rfl
end
end Go.Proofs.Ytokhoigpaanjeaa
