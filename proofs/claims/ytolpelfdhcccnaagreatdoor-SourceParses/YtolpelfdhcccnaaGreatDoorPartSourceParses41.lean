/- Texts of one chain, laid one behind the other. -/
import Derived.Test.YtolpelfdhcccnaaGreatDoorPartSourceParses40
import Derived.Test.YtolpelfdhcccnaaGreatDoorPartSourceParses39
import Derived.Test.YtolpelfdhcccnaaGreatDoorPartSourceParses38
import Derived.Test.YtolpelfdhcccnaaGreatDoorPartSourceParses4
import Derived.Deep.Cut
namespace Go.Proofs.YtolpelfdhcccnaaGreatDoor
open Go.ChangeShapes Go.WideShapes Go.ChangeAt Go.RowKit
/-- A sketch of so many items as it has. -/
def OwnK (nm : List UInt8) (K : List Itm) (u : World) (v : Value) : Prop := ∃ a c M, v = .agg #[.string (str nm), .slice a M.length c] ∧ M.map Prod.fst = K ∧ ItR u a M ∧ ItO u M
theorem OwnK.later {nm : List UInt8} {K : List Itm} {u u' : World} {v : Value} (h : OwnK nm K u v) (hb : Below u.heap.size u u') : OwnK nm K u' v := by
  obtain ⟨a, c, M, h1, h2, h3, h4⟩ := h
  exact ⟨a, c, M, h1, h2, h3.below hb, h4.below hb⟩
theorem build_zero {nm : List UInt8} {K : List Itm} (h : (buildS nm K).2.1 = 0) : buildS nm K = (lookS nm K, 0, 0) ∧ (firstF (lookS nm K)).code = 0 := by
  unfold buildS at h ⊢
  by_cases h1 : 0 ≤ idxG K 0
  · rw [if_pos h1] at h; exact absurd (show (1 : Int) = 0 from h) (by decide)
  · rw [if_neg h1] at h ⊢
    by_cases h2 : (firstF (lookS nm K)).code ≠ 0
    · rw [if_pos h2] at h; exact absurd h h2
    · rw [if_neg h2]; exact ⟨rfl, Decidable.not_not.1 h2⟩
theorem idxG_first : ∀ (K : List Itm) (i j : Nat), j < K.length → (∀ k, k < j → lessK (K.getD k noItm) = false) → lessK (K.getD j noItm) = true → idxG K i = ((i + j : Nat) : Int)
  | [], _, _, h, _, _ => absurd h (Nat.not_lt_zero _)
  | x :: r, i, 0, _, _, h2 => by
    have h3 : lessK x = true := h2
    show (if lessK x = true then (i : Int) else _) = _
    rw [if_pos h3]; rfl
  | x :: r, i, j + 1, h, h1, h2 => by
    have h3 : lessK x = false := h1 0 (by omega)
    show (if lessK x = true then (i : Int) else idxG r (i + 1)) = _
    rw [if_neg (by rw [h3]; decide), idxG_first r (i + 1) j (by simpa using h) (fun k hk => h1 (k + 1) (by omega)) h2]
    congr 1; omega
theorem map_nth {L : List (Itm × Value)} {k : Nat} (h : k < L.length) : (L.map Prod.fst).getD k noItm = (nthI L k).1 := by
  unfold nthI
  rw [List.getD_eq_getElem?_getD, List.getD_eq_getElem?_getD, List.getElem?_map, List.getElem?_eq_getElem h]
  rfl
theorem build_bad (nm : List UInt8) {L : List (Itm × Value)} {j : Nat} (h : j < L.length) (h1 : ∀ k, k < j → lessK (nthI L k).1 = false) (h2 : lessK (nthI L j).1 = true) : (buildS nm (L.map Prod.fst)).2 = (1, (nthI L j).1.place) := by
  have e : idxG (L.map Prod.fst) 0 = (j : Int) := by
    have q := idxG_first (L.map Prod.fst) 0 j (by simpa using h) (fun k hk => by rw [map_nth (by omega)]; exact h1 k hk) (by rw [map_nth h]; exact h2)
    rw [Nat.zero_add] at q
    exact q
  unfold buildS
  rw [e, if_pos (by omega), Int.toNat_natCast, map_nth h]
theorem less_all {L : List (Itm × Value)} (h : ∀ k, k < L.length → lessK (nthI L k).1 = false) : (∀ x ∈ L.map Prod.fst, lessK x = false) ∧ ∀ p ∈ L, 1 ≤ p.1.kind ∧ p.1.kind ≤ 4 := by
  have q : ∀ p ∈ L, lessK p.1 = false := fun p hp => by
    obtain ⟨k, hk, e⟩ := List.getElem_of_mem hp
    have := h k hk
    unfold nthI at this
    rw [List.getD_eq_getElem?_getD, List.getElem?_eq_getElem hk] at this
    rw [← e]; exact this
  refine ⟨fun x hx => ?_, fun p hp => ?_⟩
  · obtain ⟨p, hp, rfl⟩ := List.mem_map.1 hx
    exact q p hp
  · have := q p hp
    unfold lessK at this
    simp at this
    omega
theorem grG_len {w : World} {a1 a2 a3 a4 : Option Addr} {g : GG} (h : GrG w a1 a2 a3 a4 g) : (∀ x ∈ g.actors, x.params.length ≤ 4611686018427387904) ∧ ∀ x ∈ g.edges, x.start.length ≤ 4611686018427387904 := by
  have q := h.nums
  exact ⟨fun x hx => by have := (q.1 x hx).2.2; omega, fun x hx => by have := (q.2 x hx).2; omega⟩
theorem sizW8 : (Tryz.prog.info? 114).map (·.size) = some 4 := by kernel_rfl
/-- The end of the document's Build where nothing is wrong: the graph stays whatever becomes of older memory. -/
def BldZ (nm : List UInt8) (G : GG) (w : World) (e : Ending) (w' : World) : Prop := ∃ z1 z2 z3 z4 f1 f2 f3 f4, e = .returned (.tuple #[.agg #[.string (str nm), .slice z1 G.actors.length f1, .slice z2 G.edges.length f2, .slice z3 G.ins.length f3, .slice z4 G.outs.length f4], .agg #[.int .i64 0, .int .i64 0]]) ∧ (∀ w9 : World, (∀ k, w.heap.size ≤ k → k < w'.heap.size → w9.heap[k]? = w'.heap[k]?) → GrG w9 z1 z2 z3 z4 G) ∧ Below w.heap.size w w'
/-- How the document's Build ends. -/
def RBldE (w : World) (nm : List UInt8) (K : List Itm) (e : Ending) (w' : World) : Prop :=
  if (buildS nm K).2.1 = 0 then BldZ nm (lookS nm K) w e w' else e = .returned (.tuple #[.agg #[.string ⟨#[]⟩, .slice none 0 0, .slice none 0 0, .slice none 0 0, .slice none 0 0], .agg #[.int .i64 (buildS nm K).2.1, .int .i64 (buildS nm K).2.2]]) ∧ Below w.heap.size w w'
/-- Where an error is, from an item on. -/
theorem place_step (x : Itm) (r : List Itm) (m : Nat) (f : FL) : placeG (x :: r) m f = if x.kind = (f.kind : Int) then (if m = f.number then withinS x f.stop else placeG r (m + 1) f) else placeG r m f := rfl
theorem of_gr {w w' : World} {nm : List UInt8} {K : List Itm} {x1 x2 x3 x4 : Option Addr} {d1 d2 d3 d4 n1 n2 n3 n4 : Nat} {As : List (GA × Value)} {Es : List (GE × Value)} {Ps Os : List GP} (h1 : w'.ownsRow w.heap.size 62 3 (.slice x1 n1 d1) As.length (As.flatMap aP)) (h2 : w'.ownsRow w.heap.size 65 5 (.slice x2 n2 d2) Es.length (Es.flatMap eP)) (h3 : w'.ownsRow w.heap.size 81 3 (.slice x3 n3 d3) Ps.length (Ps.flatMap pP)) (h4 : w'.ownsRow w.heap.size 81 3 (.slice x4 n4 d4) Os.length (Os.flatMap pP)) (hL : OfL (actN K) K As Es Ps Os) (ha : ∀ p ∈ As, ParO w.heap.size w' p) (he : ∀ p ∈ Es, ParQ w.heap.size w' p) (hK : K.length ≤ 2000000) :
    GrG w' x1 x2 x3 x4 (ofG nm K) := by
  have e : ofG nm K = ⟨nm, As.map Prod.fst, Es.map Prod.fst, Ps, Os⟩ := by unfold ofG ofN; rw [← hL.a, ← hL.e, ← hL.i, ← hL.o]
  have hl := hL.len
  rw [e]
  exact ⟨rowA_gr h1 (fun p hp => ⟨(ha p hp).1, ints_argG (ha p hp).2.2 (ha p hp).2.1⟩), rowE_gr h2 (fun p hp => ints_argG (he p hp).2 (he p hp).1), rowP_at h3, rowP_at h4, by show (As.map Prod.fst).length ≤ _; rw [List.length_map]; omega, by show (Es.map Prod.fst).length ≤ _; rw [List.length_map]; omega, by show Ps.length ≤ _; omega, by show Os.length ≤ _; omega⟩
set_option maxRecDepth 100000 in
set_option maxHeartbeats 32000000 in
theorem rbuild_any (nm : List UInt8) (a : Option Addr) (n c : Nat) (L : List (Itm × Value)) (w : World) (hn : L.length = n) (h : ItR w a L) (hO : ItO w L) (hl : n ≤ 2000000) :
    Calls Tryz.prog 26 #[.agg #[.string (str nm), .slice a n c]] w (RBldE w nm (L.map Prod.fst)) := by
  have ba := (((Below.refl w.heap.size w).alloc (Nat.le_refl _) (.cells #[.string (str nm), .slice a n c] 52)).alloc (by simp) (.cells #[.string ⟨#[]⟩, .slice none 0 0, .slice none 0 0, .slice none 0 0, .slice none 0 0] 26)).alloc (by simp; omega) (.cells #[.int .i64 0, .int .i64 0] 33)
  have B0 : Hid (Bx w #[.string (str nm), .slice a n c] #[.string ⟨#[]⟩, .slice none 0 0, .slice none 0 0, .slice none 0 0, .slice none 0 0] #[.int .i64 0, .int .i64 0] (((w.alloc (.cells #[.string (str nm), .slice a n c] 52)).alloc (.cells #[.string ⟨#[]⟩, .slice none 0 0, .slice none 0 0, .slice none 0 0, .slice none 0 0] 26)).alloc (.cells #[.int .i64 0, .int .i64 0] 33))) := by
    have sb := ((blkA_new 52 w #[.string (str nm), .slice a n c]).below ((Below.refl _ _).alloc (Nat.le_refl _) (.cells #[.string ⟨#[]⟩, .slice none 0 0, .slice none 0 0, .slice none 0 0, .slice none 0 0] 26))).below ((Below.refl _ _).alloc (Nat.le_refl _) (.cells #[.int .i64 0, .int .i64 0] 33))
    have rb : BlkA 26 (w.heap.size + 1) (((w.alloc (.cells #[.string (str nm), .slice a n c] 52)).alloc (.cells #[.string ⟨#[]⟩, .slice none 0 0, .slice none 0 0, .slice none 0 0, .slice none 0 0] 26)).alloc (.cells #[.int .i64 0, .int .i64 0] 33)) #[.string ⟨#[]⟩, .slice none 0 0, .slice none 0 0, .slice none 0 0, .slice none 0 0] := by
      have h3 := (blkA_new 26 (w.alloc (.cells #[.string (str nm), .slice a n c] 52)) #[.string ⟨#[]⟩, .slice none 0 0, .slice none 0 0, .slice none 0 0, .slice none 0 0]).below ((Below.refl _ _).alloc (Nat.le_refl _) (.cells #[.int .i64 0, .int .i64 0] 33))
      rw [World.size_alloc] at h3
      exact h3
    have gb : BlkA 33 (w.heap.size + 2) (((w.alloc (.cells #[.string (str nm), .slice a n c] 52)).alloc (.cells #[.string ⟨#[]⟩, .slice none 0 0, .slice none 0 0, .slice none 0 0, .slice none 0 0] 26)).alloc (.cells #[.int .i64 0, .int .i64 0] 33)) #[.int .i64 0, .int .i64 0] := by
      have h3 := blkA_new 33 ((w.alloc (.cells #[.string (str nm), .slice a n c] 52)).alloc (.cells #[.string ⟨#[]⟩, .slice none 0 0, .slice none 0 0, .slice none 0 0, .slice none 0 0] 26)) #[.int .i64 0, .int .i64 0]
      rw [World.size_alloc, World.size_alloc] at h3
      exact h3
    exact ⟨sb, rb, gb, ba⟩
  have HR := hiddenG h
  have HO := hiddenG hO
  have HL := hiddenG hn
  have hnI : (n : Int) ≤ 2000000 := by omega
  have ONO : Hid (∀ cd pl, cd ≠ 0 → (buildS nm (L.map Prod.fst)).2 = (cd, pl) → ∀ e w', (e = .returned (.tuple #[.agg #[.string ⟨#[]⟩, .slice none 0 0, .slice none 0 0, .slice none 0 0, .slice none 0 0], .agg #[.int .i64 cd, .int .i64 pl]]) ∧ Below w.heap.size w w') → RBldE w nm (L.map Prod.fst) e w') := fun cd pl h0 hb e w' q => by
    unfold RBldE
    rw [hb, if_neg h0]
    exact q
  have OYES : Hid ((buildS nm (L.map Prod.fst)).2.1 = 0 → ∀ e w', BldZ nm (lookS nm (L.map Prod.fst)) w e w' → RBldE w nm (L.map Prod.fst) e w') := fun h0 e w' q => by
    unfold RBldE
    rw [if_pos h0]
    exact q
  generalize RBldE w nm (L.map Prod.fst) = RE at *
  clear ba h hO hn
  go_enter Tryz.func26, Tryz.ntmps26
  go_upto_region 1 with fail
  generalize ((w.alloc (.cells #[.string (str nm), .slice a n c] 52)).alloc (.cells #[.string ⟨#[]⟩, .slice none 0 0, .slice none 0 0, .slice none 0 0, .slice none 0 0] 26)).alloc (.cells #[.int .i64 0, .int .i64 0] 33) = W0 at *
  go_wp2
  go_loopg [4] n (fun gk v wr => ∃ k : Nat, k ≤ n ∧ gk = n - k ∧ v = .int .i64 (k : Int) ∧ (∀ j, j < k → lessK (nthI L j).1 = false) ∧ W0 = wr)
  case atStart => exact ⟨0, Nat.zero_le _, rfl, rfl, fun j hj => absurd hj (Nat.not_lt_zero _), rfl⟩
  case round =>
    obtain ⟨k, hk, rfl, rfl, hall, rfl⟩ := hrel
    have AL := hiddenG hall
    clear hall
    have y1 : W0.cell? ⟨w.heap.size, 1, none⟩ = some (.slice a n c) := B0.out.s.cell rfl
    by_cases hlt : k < n
    · have hki : (k : Int) < (n : Int) := by omega
      have hkl : k < L.length := by have := HL.out; omega
      rcases (HR.out.below B0.out.bel).lie with e | ⟨gb, off, rfl, hc⟩
      · rw [e] at hkl; exact absurd hkl (Nat.not_lt_zero _)
      have c0 := (hc k hkl).c0
      have HPL : Hid (w.cell? ⟨gb, off + k * 11 + 10, none⟩ = some (.int .i64 (nthI L k).1.place)) := by
        rcases HR.out.lie with e | ⟨gb', off', e, hc'⟩
        · rw [e] at hkl; exact absurd hkl (Nat.not_lt_zero _)
        · cases e; exact (hc' k hkl).c10
      have BB := hiddenG (build_bad nm hkl AL.out)
      have LK : Hid (lessK (nthI L k).1 = (decide ((nthI L k).1.kind < 1) || decide (4 < (nthI L k).1.kind))) := rfl
      have HX : Hid (lessK (nthI L k).1 = false → ∀ j, j < k + 1 → lessK (nthI L j).1 = false) := fun e j hj => by
        by_cases q : j < k
        · exact AL.out j q
        · rw [show j = k by omega]; exact e
      clear hc hkl
      obtain ⟨pl, hpl⟩ : ∃ q, (nthI L k).1.place = q := ⟨_, rfl⟩
      rw [hpl] at HPL BB
      obtain ⟨ki, hki2⟩ : ∃ q, (nthI L k).1.kind = q := ⟨_, rfl⟩
      rw [hki2] at LK c0
      clear hpl hki2
      generalize (nthI L k).1 = xx at *
      cases h1 : decide (ki < 1) with
      | true =>
        have BH := hiddenG (ONO.out 1 pl (by decide) (BB.out (by rw [LK.out, h1]; rfl)))
        clear BB LK HX
        go_upto_region 5 with fail
        refine wp_region_gen [8, 9] (fun d i u z => match i with
            | 0 => z = .agg #[.string ⟨#[]⟩, .slice none 0 0, .slice none 0 0, .slice none 0 0, .slice none 0 0]
            | 1 => z = .pointer (some ⟨w.heap.size, 1, none⟩)
            | 2 => z = .slice (some ⟨gb, off, none⟩) n c
            | 3 => z = .int .i64 (k : Int)
            | 4 => z = .pointer (some ⟨gb, off + k * 11, none⟩)
            | 5 => z = .pointer (some ⟨gb, off + k * 11 + 10, none⟩)
            | 6 => z = .int .i64 pl
            | 7 => z = .agg #[.int .i64 1, .int .i64 pl]
            | 8 => True
            | 9 => True
            | _ => True) (fun d u => (d 9 = true → Bx w #[.string (str nm), .slice (some ⟨gb, off, none⟩) n c] #[.string ⟨#[]⟩, .slice none 0 0, .slice none 0 0, .slice none 0 0, .slice none 0 0] #[.int .i64 1, .int .i64 pl] u) ∧ (d 9 = false → Bx w #[.string (str nm), .slice (some ⟨gb, off, none⟩) n c] #[.string ⟨#[]⟩, .slice none 0 0, .slice none 0 0, .slice none 0 0, .slice none 0 0] #[.int .i64 0, .int .i64 0] u)) (by kernel_rfl) (by kernel_rfl) (by kernel_rfl) ?_ ?_ ?_ ?_ ?_ ?_ (by kernel_rfl)
        · intro d i w v w' h hb
          match i, h with
          | 0, h => exact h
          | 1, h => exact h
          | 2, h => exact h
          | 3, h => exact h
          | 4, h => exact h
          | 5, h => exact h
          | 6, h => exact h
          | 7, h => exact h
          | 8, h => exact h
          | 9, h => exact h
          | _ + 10, _ => trivial
        · intro d u u' h hb
          exact ⟨fun e => (h.1 e).below hb, fun e => (h.2 e).below hb⟩
        · exact ⟨fun e => absurd e (by decide), fun _ => B0.out⟩
        · intro d i o ρ w' hm ho hf hg hC hcs hfs hfr hdep
          match i, hm, ho, hf, hg, hfr, hdep with
          | 0, _, ho, hf, hg, hfr, hdep =>
            simp only [gTA, gCZ, gSI] at ho
            subst ho
            refine ⟨fun _ => ?_, fun hw => absurd (show true = false from hw) (by decide)⟩
            simp [go_sem]
            exact ⟨Below.refl _ _, rfl⟩
          | 1, _, ho, hf, hg, hfr, hdep =>
            simp only [gTA, gCZ, gCS, gSI] at ho
            subst ho
            refine ⟨fun _ => ?_, fun hw => absurd (show true = false from hw) (by decide)⟩
            have ts : ρ (.tmp 1) = .pointer (some ⟨w.heap.size, 0, none⟩) := hfr 1 (by kernel_rfl)
            simp [go_sem, ts]
            exact ⟨Below.refl _ _, rfl⟩
          | 2, _, ho, hf, hg, hfr, hdep =>
            simp only [gTA, gCZ, gCS, gSI] at ho
            subst ho
            refine ⟨fun _ => ?_, fun hw => absurd (show true = false from hw) (by decide)⟩
            have bx : Bx w #[.string (str nm), .slice (some ⟨gb, off, none⟩) n c] #[.string ⟨#[]⟩, .slice none 0 0, .slice none 0 0, .slice none 0 0, .slice none 0 0] #[.int .i64 0, .int .i64 0] w' := hC.2 (hf 9 (by decide) (by kernel_rfl))
            have cc : w'.cell? ⟨w.heap.size, 1, none⟩ = some (.slice (some ⟨gb, off, none⟩) n c) := bx.s.cell rfl
            have d0 : ρ (.tmp 34) = .pointer (some ⟨w.heap.size, 1, none⟩) := hdep 1 34 (by kernel_rfl) (by kernel_rfl)
            simp [go_sem, d0, cc]
            exact ⟨Below.refl _ _, rfl⟩
          | 3, _, ho, hf, hg, hfr, hdep =>
            simp only [gTA, gCZ, gCS, gSI] at ho
            subst ho
            refine ⟨fun _ => ?_, fun hw => absurd (show true = false from hw) (by decide)⟩
            have ts : ρ (.tmp 4) = .int .i64 (k : Int) := hfr 4 (by kernel_rfl)
            simp [go_sem, ts]
            exact ⟨Below.refl _ _, rfl⟩
          | 4, _, ho, hf, hg, hfr, hdep =>
            simp only [gTA, gCZ, gCS, gSI] at ho
            subst ho
            refine ⟨fun _ => ?_, fun hw => absurd (show true = false from hw) (by decide)⟩
            have d0 : ρ (.tmp 35) = .slice (some ⟨gb, off, none⟩) n c := hdep 2 35 (by kernel_rfl) (by kernel_rfl)
            have d1 : ρ (.tmp 36) = .int .i64 (k : Int) := hdep 3 36 (by kernel_rfl) (by kernel_rfl)
            simp [go_sem, d0, d1, hki]
            exact ⟨Below.refl _ _, rfl⟩
          | 5, _, ho, hf, hg, hfr, hdep =>
            simp only [gTA, gCZ, gCS, gSI] at ho
            subst ho
            refine ⟨fun _ => ?_, fun hw => absurd (show true = false from hw) (by decide)⟩
            have d0 : ρ (.tmp 37) = .pointer (some ⟨gb, off + k * 11, none⟩) := hdep 4 37 (by kernel_rfl) (by kernel_rfl)
            simp [go_sem, d0]
            exact ⟨Below.refl _ _, rfl⟩
          | 6, _, ho, hf, hg, hfr, hdep =>
            simp only [gTA, gCZ, gCS, gSI] at ho
            subst ho
            refine ⟨fun _ => ?_, fun hw => absurd (show true = false from hw) (by decide)⟩
            have bx : Bx w #[.string (str nm), .slice (some ⟨gb, off, none⟩) n c] #[.string ⟨#[]⟩, .slice none 0 0, .slice none 0 0, .slice none 0 0, .slice none 0 0] #[.int .i64 0, .int .i64 0] w' := hC.2 (hf 9 (by decide) (by kernel_rfl))
            have cc : w'.cell? ⟨gb, off + k * 11 + 10, none⟩ = some (.int .i64 pl) := cell_keep bx.bel HPL.out
            have d0 : ρ (.tmp 38) = .pointer (some ⟨gb, off + k * 11 + 10, none⟩) := hdep 5 38 (by kernel_rfl) (by kernel_rfl)
            simp [go_sem, d0, cc]
            exact ⟨Below.refl _ _, rfl⟩
          | 7, _, ho, hf, hg, hfr, hdep =>
            simp only [gTA, gCZ, gCS, gSI] at ho
            subst ho
            refine ⟨fun _ => ?_, fun hw => absurd (show true = false from hw) (by decide)⟩
            have d0 : ρ (.tmp 39) = .int .i64 pl := hdep 6 39 (by kernel_rfl) (by kernel_rfl)
            simp [go_sem, d0, hcs]
            exact ⟨Below.refl _ _, rfl⟩
          | 8, hm, _, _, _, _, _ => exact absurd hm (by decide)
          | 9, hm, _, _, _, _, _ => exact absurd hm (by decide)
          | n + 10, _, ho, _, _, _, _ => simp at ho
        · intro d i o ρ w' hm ho h0 hf hg hC hcs hfs hfr hdep
          match i, hm, ho, h0, hf, hg, hfr, hdep with
          | 0, hm, _, _, _, _, _, _ => exact absurd hm (by decide)
          | 1, hm, _, _, _, _, _, _ => exact absurd hm (by decide)
          | 2, hm, _, _, _, _, _, _ => exact absurd hm (by decide)
          | 3, hm, _, _, _, _, _, _ => exact absurd hm (by decide)
          | 4, hm, _, _, _, _, _, _ => exact absurd hm (by decide)
          | 5, hm, _, _, _, _, _, _ => exact absurd hm (by decide)
          | 6, hm, _, _, _, _, _, _ => exact absurd hm (by decide)
          | 7, hm, _, _, _, _, _, _ => exact absurd hm (by decide)
          | 8, _, ho, h0, hf, hg, hfr, hdep =>
            simp only [gTA, gCZ, gCS, gSI] at ho
            subst ho
            refine ⟨rfl, ?_⟩
            have t0 : ρ (.tmp 33) = .agg #[.string ⟨#[]⟩, .slice none 0 0, .slice none 0 0, .slice none 0 0, .slice none 0 0] := hdep 0 33 (by kernel_rfl) (by kernel_rfl)
            have tp : ρ (.tmp 2) = .pointer (some ⟨w.heap.size + 1, 0, none⟩) := hfr 2 (by kernel_rfl)
            refine mark_storeW 26 (.tmp 2) (.tmp 33) rfl (w.heap.size + 1) 26 _ _ tp t0 (hC.2 (hf 9 (by decide) (by kernel_rfl))).g sizG rfl rfl ?_
            intro w8 hB8 hU8
            refine ⟨⟨fun e => absurd ((hf 9 (by decide) (by kernel_rfl)).symm.trans (by simpa [doneAt] using e)) (by decide), fun _ => (hC.2 (hf 9 (by decide) (by kernel_rfl))).setG hB8 hU8⟩, fun h => absurd rfl h, ?_⟩
            intro j t _ hs
            match j, hs with
            | 0, hs => exact hs
            | 1, hs => exact hs
            | 2, hs => exact hs
            | 3, hs => exact hs
            | 4, hs => exact hs
            | 5, hs => exact hs
            | 6, hs => exact hs
            | 7, hs => exact hs
            | 8, hs => exact hs
            | 9, hs => exact hs
            | _ + 10, _ => trivial
          | 9, _, ho, h0, hf, hg, hfr, hdep =>
            simp only [gTA, gCZ, gCS, gSI] at ho
            subst ho
            refine ⟨rfl, ?_⟩
            have t0 : ρ (.tmp 40) = .agg #[.int .i64 1, .int .i64 pl] := hdep 7 40 (by kernel_rfl) (by kernel_rfl)
            have tp : ρ (.tmp 3) = .pointer (some ⟨w.heap.size + 2, 0, none⟩) := hfr 3 (by kernel_rfl)
            refine mark_storeW 33 (.tmp 3) (.tmp 40) rfl (w.heap.size + 2) 33 _ _ tp t0 (hC.2 h0).f sizU rfl rfl ?_
            intro w8 hB8 hU8
            refine ⟨⟨fun _ => (hC.2 h0).setF hB8 hU8, fun e => absurd e (by simp [doneAt])⟩, fun h => absurd rfl h, ?_⟩
            intro j t _ hs
            match j, hs with
            | 0, hs => exact hs
            | 1, hs => exact hs
            | 2, hs => exact hs
            | 3, hs => exact hs
            | 4, hs => exact hs
            | 5, hs => exact hs
            | 6, hs => exact hs
            | 7, hs => exact hs
            | 8, hs => exact hs
            | 9, hs => exact hs
            | _ + 10, _ => trivial
          | n + 10, _, ho, _, _, _, _, _ => simp at ho
        · intro V w9 hC9 hS
          simp only [puts, put_none]
          simp only [Act.put, List.setIfInBounds_toArray, List.set_cons_zero, List.set_cons_succ]
          clear hS 
          have BZ := hiddenG (hC9.1 rfl)
          clear hC9
          go_wp2
          have r0 : w9.cell? ⟨w.heap.size + 1, 0, none⟩ = some (.string ⟨#[]⟩) := BZ.out.g.cell rfl
          have r1 : w9.cell? ⟨w.heap.size + 1, 1, none⟩ = some (.slice none 0 0) := BZ.out.g.cell rfl
          have r2 : w9.cell? ⟨w.heap.size + 1, 2, none⟩ = some (.slice none 0 0) := BZ.out.g.cell rfl
          have r3 : w9.cell? ⟨w.heap.size + 1, 3, none⟩ = some (.slice none 0 0) := BZ.out.g.cell rfl
          have r4 : w9.cell? ⟨w.heap.size + 1, 4, none⟩ = some (.slice none 0 0) := BZ.out.g.cell rfl
          have u0 : w9.cell? ⟨w.heap.size + 2, 0, none⟩ = some (.int .i64 1) := BZ.out.f.cell rfl
          have u1 : w9.cell? ⟨w.heap.size + 2, 1, none⟩ = some (.int .i64 pl) := BZ.out.f.cell rfl
          refine bodyPost_ret (v := .tuple #[.agg #[.string ⟨#[]⟩, .slice none 0 0, .slice none 0 0, .slice none 0 0, .slice none 0 0], .agg #[.int .i64 1, .int .i64 pl]]) (by simp [results, Tryz.results26, go_sem, r0, r1, r2, r3, r4, u0, u1]) rfl ?_
          exact BH.out _ _ ⟨rfl, BZ.out.bel⟩
      | false =>
        cases h2 : decide (4 < ki) with
        | true =>
          have BH := hiddenG (ONO.out 1 pl (by decide) (BB.out (by rw [LK.out, h1, h2]; rfl)))
          clear BB LK HX
          go_upto_region 5 with fail
          refine wp_region_gen [8, 9] (fun d i u z => match i with
              | 0 => z = .agg #[.string ⟨#[]⟩, .slice none 0 0, .slice none 0 0, .slice none 0 0, .slice none 0 0]
              | 1 => z = .pointer (some ⟨w.heap.size, 1, none⟩)
              | 2 => z = .slice (some ⟨gb, off, none⟩) n c
              | 3 => z = .int .i64 (k : Int)
              | 4 => z = .pointer (some ⟨gb, off + k * 11, none⟩)
              | 5 => z = .pointer (some ⟨gb, off + k * 11 + 10, none⟩)
              | 6 => z = .int .i64 pl
              | 7 => z = .agg #[.int .i64 1, .int .i64 pl]
              | 8 => True
              | 9 => True
              | _ => True) (fun d u => (d 9 = true → Bx w #[.string (str nm), .slice (some ⟨gb, off, none⟩) n c] #[.string ⟨#[]⟩, .slice none 0 0, .slice none 0 0, .slice none 0 0, .slice none 0 0] #[.int .i64 1, .int .i64 pl] u) ∧ (d 9 = false → Bx w #[.string (str nm), .slice (some ⟨gb, off, none⟩) n c] #[.string ⟨#[]⟩, .slice none 0 0, .slice none 0 0, .slice none 0 0, .slice none 0 0] #[.int .i64 0, .int .i64 0] u)) (by kernel_rfl) (by kernel_rfl) (by kernel_rfl) ?_ ?_ ?_ ?_ ?_ ?_ (by kernel_rfl)
          · intro d i w v w' h hb
            match i, h with
            | 0, h => exact h
            | 1, h => exact h
            | 2, h => exact h
            | 3, h => exact h
            | 4, h => exact h
            | 5, h => exact h
            | 6, h => exact h
            | 7, h => exact h
            | 8, h => exact h
            | 9, h => exact h
            | _ + 10, _ => trivial
          · intro d u u' h hb
            exact ⟨fun e => (h.1 e).below hb, fun e => (h.2 e).below hb⟩
          · exact ⟨fun e => absurd e (by decide), fun _ => B0.out⟩
          · intro d i o ρ w' hm ho hf hg hC hcs hfs hfr hdep
            match i, hm, ho, hf, hg, hfr, hdep with
            | 0, _, ho, hf, hg, hfr, hdep =>
              simp only [gTA, gCZ, gSI] at ho
              subst ho
              refine ⟨fun _ => ?_, fun hw => absurd (show true = false from hw) (by decide)⟩
              simp [go_sem]
              exact ⟨Below.refl _ _, rfl⟩
            | 1, _, ho, hf, hg, hfr, hdep =>
              simp only [gTA, gCZ, gCS, gSI] at ho
              subst ho
              refine ⟨fun _ => ?_, fun hw => absurd (show true = false from hw) (by decide)⟩
              have ts : ρ (.tmp 1) = .pointer (some ⟨w.heap.size, 0, none⟩) := hfr 1 (by kernel_rfl)
              simp [go_sem, ts]
              exact ⟨Below.refl _ _, rfl⟩
            | 2, _, ho, hf, hg, hfr, hdep =>
              simp only [gTA, gCZ, gCS, gSI] at ho
              subst ho
              refine ⟨fun _ => ?_, fun hw => absurd (show true = false from hw) (by decide)⟩
              have bx : Bx w #[.string (str nm), .slice (some ⟨gb, off, none⟩) n c] #[.string ⟨#[]⟩, .slice none 0 0, .slice none 0 0, .slice none 0 0, .slice none 0 0] #[.int .i64 0, .int .i64 0] w' := hC.2 (hf 9 (by decide) (by kernel_rfl))
              have cc : w'.cell? ⟨w.heap.size, 1, none⟩ = some (.slice (some ⟨gb, off, none⟩) n c) := bx.s.cell rfl
              have d0 : ρ (.tmp 34) = .pointer (some ⟨w.heap.size, 1, none⟩) := hdep 1 34 (by kernel_rfl) (by kernel_rfl)
              simp [go_sem, d0, cc]
              exact ⟨Below.refl _ _, rfl⟩
            | 3, _, ho, hf, hg, hfr, hdep =>
              simp only [gTA, gCZ, gCS, gSI] at ho
              subst ho
              refine ⟨fun _ => ?_, fun hw => absurd (show true = false from hw) (by decide)⟩
              have ts : ρ (.tmp 4) = .int .i64 (k : Int) := hfr 4 (by kernel_rfl)
              simp [go_sem, ts]
              exact ⟨Below.refl _ _, rfl⟩
            | 4, _, ho, hf, hg, hfr, hdep =>
              simp only [gTA, gCZ, gCS, gSI] at ho
              subst ho
              refine ⟨fun _ => ?_, fun hw => absurd (show true = false from hw) (by decide)⟩
              have d0 : ρ (.tmp 35) = .slice (some ⟨gb, off, none⟩) n c := hdep 2 35 (by kernel_rfl) (by kernel_rfl)
              have d1 : ρ (.tmp 36) = .int .i64 (k : Int) := hdep 3 36 (by kernel_rfl) (by kernel_rfl)
              simp [go_sem, d0, d1, hki]
              exact ⟨Below.refl _ _, rfl⟩
            | 5, _, ho, hf, hg, hfr, hdep =>
              simp only [gTA, gCZ, gCS, gSI] at ho
              subst ho
              refine ⟨fun _ => ?_, fun hw => absurd (show true = false from hw) (by decide)⟩
              have d0 : ρ (.tmp 37) = .pointer (some ⟨gb, off + k * 11, none⟩) := hdep 4 37 (by kernel_rfl) (by kernel_rfl)
              simp [go_sem, d0]
              exact ⟨Below.refl _ _, rfl⟩
            | 6, _, ho, hf, hg, hfr, hdep =>
              simp only [gTA, gCZ, gCS, gSI] at ho
              subst ho
              refine ⟨fun _ => ?_, fun hw => absurd (show true = false from hw) (by decide)⟩
              have bx : Bx w #[.string (str nm), .slice (some ⟨gb, off, none⟩) n c] #[.string ⟨#[]⟩, .slice none 0 0, .slice none 0 0, .slice none 0 0, .slice none 0 0] #[.int .i64 0, .int .i64 0] w' := hC.2 (hf 9 (by decide) (by kernel_rfl))
              have cc : w'.cell? ⟨gb, off + k * 11 + 10, none⟩ = some (.int .i64 pl) := cell_keep bx.bel HPL.out
              have d0 : ρ (.tmp 38) = .pointer (some ⟨gb, off + k * 11 + 10, none⟩) := hdep 5 38 (by kernel_rfl) (by kernel_rfl)
              simp [go_sem, d0, cc]
              exact ⟨Below.refl _ _, rfl⟩
            | 7, _, ho, hf, hg, hfr, hdep =>
              simp only [gTA, gCZ, gCS, gSI] at ho
              subst ho
              refine ⟨fun _ => ?_, fun hw => absurd (show true = false from hw) (by decide)⟩
              have d0 : ρ (.tmp 39) = .int .i64 pl := hdep 6 39 (by kernel_rfl) (by kernel_rfl)
              simp [go_sem, d0, hcs]
              exact ⟨Below.refl _ _, rfl⟩
            | 8, hm, _, _, _, _, _ => exact absurd hm (by decide)
            | 9, hm, _, _, _, _, _ => exact absurd hm (by decide)
            | n + 10, _, ho, _, _, _, _ => simp at ho
          · intro d i o ρ w' hm ho h0 hf hg hC hcs hfs hfr hdep
            match i, hm, ho, h0, hf, hg, hfr, hdep with
            | 0, hm, _, _, _, _, _, _ => exact absurd hm (by decide)
            | 1, hm, _, _, _, _, _, _ => exact absurd hm (by decide)
            | 2, hm, _, _, _, _, _, _ => exact absurd hm (by decide)
            | 3, hm, _, _, _, _, _, _ => exact absurd hm (by decide)
            | 4, hm, _, _, _, _, _, _ => exact absurd hm (by decide)
            | 5, hm, _, _, _, _, _, _ => exact absurd hm (by decide)
            | 6, hm, _, _, _, _, _, _ => exact absurd hm (by decide)
            | 7, hm, _, _, _, _, _, _ => exact absurd hm (by decide)
            | 8, _, ho, h0, hf, hg, hfr, hdep =>
              simp only [gTA, gCZ, gCS, gSI] at ho
              subst ho
              refine ⟨rfl, ?_⟩
              have t0 : ρ (.tmp 33) = .agg #[.string ⟨#[]⟩, .slice none 0 0, .slice none 0 0, .slice none 0 0, .slice none 0 0] := hdep 0 33 (by kernel_rfl) (by kernel_rfl)
              have tp : ρ (.tmp 2) = .pointer (some ⟨w.heap.size + 1, 0, none⟩) := hfr 2 (by kernel_rfl)
              refine mark_storeW 26 (.tmp 2) (.tmp 33) rfl (w.heap.size + 1) 26 _ _ tp t0 (hC.2 (hf 9 (by decide) (by kernel_rfl))).g sizG rfl rfl ?_
              intro w8 hB8 hU8
              refine ⟨⟨fun e => absurd ((hf 9 (by decide) (by kernel_rfl)).symm.trans (by simpa [doneAt] using e)) (by decide), fun _ => (hC.2 (hf 9 (by decide) (by kernel_rfl))).setG hB8 hU8⟩, fun h => absurd rfl h, ?_⟩
              intro j t _ hs
              match j, hs with
              | 0, hs => exact hs
              | 1, hs => exact hs
              | 2, hs => exact hs
              | 3, hs => exact hs
              | 4, hs => exact hs
              | 5, hs => exact hs
              | 6, hs => exact hs
              | 7, hs => exact hs
              | 8, hs => exact hs
              | 9, hs => exact hs
              | _ + 10, _ => trivial
            | 9, _, ho, h0, hf, hg, hfr, hdep =>
              simp only [gTA, gCZ, gCS, gSI] at ho
              subst ho
              refine ⟨rfl, ?_⟩
              have t0 : ρ (.tmp 40) = .agg #[.int .i64 1, .int .i64 pl] := hdep 7 40 (by kernel_rfl) (by kernel_rfl)
              have tp : ρ (.tmp 3) = .pointer (some ⟨w.heap.size + 2, 0, none⟩) := hfr 3 (by kernel_rfl)
              refine mark_storeW 33 (.tmp 3) (.tmp 40) rfl (w.heap.size + 2) 33 _ _ tp t0 (hC.2 h0).f sizU rfl rfl ?_
              intro w8 hB8 hU8
              refine ⟨⟨fun _ => (hC.2 h0).setF hB8 hU8, fun e => absurd e (by simp [doneAt])⟩, fun h => absurd rfl h, ?_⟩
              intro j t _ hs
              match j, hs with
              | 0, hs => exact hs
              | 1, hs => exact hs
              | 2, hs => exact hs
              | 3, hs => exact hs
              | 4, hs => exact hs
              | 5, hs => exact hs
              | 6, hs => exact hs
              | 7, hs => exact hs
              | 8, hs => exact hs
              | 9, hs => exact hs
              | _ + 10, _ => trivial
            | n + 10, _, ho, _, _, _, _, _ => simp at ho
          · intro V w9 hC9 hS
            simp only [puts, put_none]
            simp only [Act.put, List.setIfInBounds_toArray, List.set_cons_zero, List.set_cons_succ]
            clear hS 
            have BZ := hiddenG (hC9.1 rfl)
            clear hC9
            go_wp2
            have r0 : w9.cell? ⟨w.heap.size + 1, 0, none⟩ = some (.string ⟨#[]⟩) := BZ.out.g.cell rfl
            have r1 : w9.cell? ⟨w.heap.size + 1, 1, none⟩ = some (.slice none 0 0) := BZ.out.g.cell rfl
            have r2 : w9.cell? ⟨w.heap.size + 1, 2, none⟩ = some (.slice none 0 0) := BZ.out.g.cell rfl
            have r3 : w9.cell? ⟨w.heap.size + 1, 3, none⟩ = some (.slice none 0 0) := BZ.out.g.cell rfl
            have r4 : w9.cell? ⟨w.heap.size + 1, 4, none⟩ = some (.slice none 0 0) := BZ.out.g.cell rfl
            have u0 : w9.cell? ⟨w.heap.size + 2, 0, none⟩ = some (.int .i64 1) := BZ.out.f.cell rfl
            have u1 : w9.cell? ⟨w.heap.size + 2, 1, none⟩ = some (.int .i64 pl) := BZ.out.f.cell rfl
            refine bodyPost_ret (v := .tuple #[.agg #[.string ⟨#[]⟩, .slice none 0 0, .slice none 0 0, .slice none 0 0, .slice none 0 0], .agg #[.int .i64 1, .int .i64 pl]]) (by simp [results, Tryz.results26, go_sem, r0, r1, r2, r3, r4, u0, u1]) rfl ?_
            exact BH.out _ _ ⟨rfl, BZ.out.bel⟩
        | false =>
          have NX := hiddenG (HX.out (by rw [LK.out, h1, h2]; rfl))
          clear BB LK HX
          go_wp2
          go_roundg (n - (k + 1))
          case measure => omega
          case rel => exact ⟨k + 1, by omega, rfl, by go_num, NX.out, rfl⟩
    · have hki : ¬ (k : Int) < (n : Int) := by omega
      have ALL := hiddenG (less_all (L := L) (fun j hj => AL.out j (by have := HL.out; omega)))
      have LU : Hid (Calls Tryz.prog 58 #[.agg #[.string (str nm), .slice a n c]] W0 (OfE W0 nm (L.map Prod.fst))) := of8_any nm a n c L W0 HL.out (HR.out.below B0.out.bel) (HO.out.below B0.out.bel) hl ALL.out.2
      have IXN : Hid (¬ 0 ≤ idxG (L.map Prod.fst) 0) := fun q => by
        rcases idxG_range (L.map Prod.fst) 0 with e | e
        · omega
        · have hj : (idxG (L.map Prod.fst) 0).toNat < (L.map Prod.fst).length := by omega
          have key : ∀ (K : List Itm) (i : Nat), (∀ x ∈ K, lessK x = false) → idxG K i = -1 := by
            intro K
            induction K with
            | nil => intro i _; rfl
            | cons x r ih =>
              intro i hx
              show (if lessK x = true then (i : Int) else idxG r (i + 1)) = -1
              rw [if_neg (by rw [hx x List.mem_cons_self]; decide)]
              exact ih (i + 1) fun y hy => hx y (List.mem_cons_of_mem _ hy)
          rw [key _ 0 ALL.out.1] at q
          omega
      have HBS : Hid (buildS nm (L.map Prod.fst) = if (firstF (lookS nm (L.map Prod.fst))).code ≠ 0 then (gg0, (firstF (lookS nm (L.map Prod.fst))).code, placeG (L.map Prod.fst) 0 (firstF (lookS nm (L.map Prod.fst)))) else (lookS nm (L.map Prod.fst), 0, 0)) := by
        show _ = _
        unfold buildS
        rw [if_neg IXN.out]
      have FOF : Hid (findS (ofG nm (L.map Prod.fst)) = firstF (lookS nm (L.map Prod.fst))) := by show _ = _; rw [← first_find, of_first]
      have FSO : Hid ((firstF (lookS nm (L.map Prod.fst))).code = 0 → ofG nm (L.map Prod.fst) = lookS nm (L.map Prod.fst)) := fun e => of_sound e
      have KLEN : Hid ((L.map Prod.fst).length ≤ 2000000) := by show _ ≤ _; rw [List.length_map, HL.out]; exact hl
      obtain ⟨⟨fc, fk, fnr, fs⟩, hff⟩ : ∃ f, firstF (lookS nm (L.map Prod.fst)) = f := ⟨_, rfl⟩
      have HNR : fnr ≤ 96 := by have q := first_number (lookS nm (L.map Prod.fst)); rw [hff] at q; exact q
      rw [hff] at HBS FOF FSO
      clear hff IXN AL y1
      have y0 : W0.cell? ⟨w.heap.size, 0, none⟩ = some (.string (str nm)) := B0.out.s.cell rfl
      have y1 : W0.cell? ⟨w.heap.size, 1, none⟩ = some (.slice a n c) := B0.out.s.cell rfl
      go_upto_region 7 with (go_at_call 58; (with_reducible refine LU.out.mono ?_); rintro e w2 ⟨v1, v2, v3, v4, As, Es, Ps, Os, rfl, h1, h2, h3, h4, hL, hpa, hpe, b2⟩; obtain ⟨x1, d1, rfl⟩ := own_slice h1; obtain ⟨x2, d2, rfl⟩ := own_slice h2; obtain ⟨x3, d3, rfl⟩ := own_slice h3; obtain ⟨x4, d4, rfl⟩ := own_slice h4; have GR0 := hiddenG (of_gr (nm := nm) h1 h2 h3 h4 hL hpa hpe KLEN.out); have R1 := hiddenG h1; have R2 := hiddenG h2; have R3 := hiddenG h3; have R4 := hiddenG h4; have PA := hiddenG hpa; have PE := hiddenG hpe; have HLL := hiddenG hL; have B2 := hiddenG b2; clear h1 h2 h3 h4 hL hpa hpe b2)
      clear y0 y1 LU
      have bv := (Below.refl w2.heap.size w2).alloc (Nat.le_refl _) (.cells #[.string (str nm), .slice x1 As.length d1, .slice x2 Es.length d2, .slice x3 Ps.length d3, .slice x4 Os.length d4] 26)
      have BXV := hiddenG ((B0.out.below B2.out).below bv)
      have G5 := hiddenG (blkA_new 26 w2 #[.string (str nm), .slice x1 As.length d1, .slice x2 Es.length d2, .slice x3 Ps.length d3, .slice x4 Os.length d4])
      have GR1 := hiddenG (GR0.out.below bv)
      have z0 : (w2.alloc (.cells #[.string (str nm), .slice x1 As.length d1, .slice x2 Es.length d2, .slice x3 Ps.length d3, .slice x4 Os.length d4] 26)).cell? ⟨w2.heap.size, 0, none⟩ = some (.string (str nm)) := G5.out.cell rfl
      have z1 : (w2.alloc (.cells #[.string (str nm), .slice x1 As.length d1, .slice x2 Es.length d2, .slice x3 Ps.length d3, .slice x4 Os.length d4] 26)).cell? ⟨w2.heap.size, 1, none⟩ = some (.slice x1 As.length d1) := G5.out.cell rfl
      have z2 : (w2.alloc (.cells #[.string (str nm), .slice x1 As.length d1, .slice x2 Es.length d2, .slice x3 Ps.length d3, .slice x4 Os.length d4] 26)).cell? ⟨w2.heap.size, 2, none⟩ = some (.slice x2 Es.length d2) := G5.out.cell rfl
      have z3 : (w2.alloc (.cells #[.string (str nm), .slice x1 As.length d1, .slice x2 Es.length d2, .slice x3 Ps.length d3, .slice x4 Os.length d4] 26)).cell? ⟨w2.heap.size, 3, none⟩ = some (.slice x3 Ps.length d3) := G5.out.cell rfl
      have z4 : (w2.alloc (.cells #[.string (str nm), .slice x1 As.length d1, .slice x2 Es.length d2, .slice x3 Ps.length d3, .slice x4 Os.length d4] 26)).cell? ⟨w2.heap.size, 4, none⟩ = some (.slice x4 Os.length d4) := G5.out.cell rfl
      have FF : Hid (Calls Tryz.prog 59 #[.agg #[.string (str nm), .slice x1 As.length d1, .slice x2 Es.length d2, .slice x3 Ps.length d3, .slice x4 Os.length d4]] (w2.alloc (.cells #[.string (str nm), .slice x1 As.length d1, .slice x2 Es.length d2, .slice x3 Ps.length d3, .slice x4 Os.length d4] 26)) fun e w' => e = .returned (.agg #[.int .i64 fc, .int .u8 (fk : Int), .int .i64 (fnr : Int), .int .i64 (fs : Int)]) ∧ Below (w2.alloc (.cells #[.string (str nm), .slice x1 As.length d1, .slice x2 Es.length d2, .slice x3 Ps.length d3, .slice x4 Os.length d4] 26)).heap.size (w2.alloc (.cells #[.string (str nm), .slice x1 As.length d1, .slice x2 Es.length d2, .slice x3 Ps.length d3, .slice x4 Os.length d4] 26)) w') := by
        have r := find8_any (ofG nm (L.map Prod.fst)) x1 x2 x3 x4 d1 d2 d3 d4 (w2.alloc (.cells #[.string (str nm), .slice x1 As.length d1, .slice x2 Es.length d2, .slice x3 Ps.length d3, .slice x4 Os.length d4] 26)) GR1.out
        have e1 : (ofG nm (L.map Prod.fst)).actors.length = As.length := by have q := congrArg List.length HLL.out.a; rw [List.length_map] at q; exact q.symm
        have e2 : (ofG nm (L.map Prod.fst)).edges.length = Es.length := by have q := congrArg List.length HLL.out.e; rw [List.length_map] at q; exact q.symm
        have e3 : (ofG nm (L.map Prod.fst)).ins.length = Ps.length := by rw [HLL.out.i]; rfl
        have e4 : (ofG nm (L.map Prod.fst)).outs.length = Os.length := by rw [HLL.out.o]; rfl
        rw [e1, e2, e3, e4, FOF.out] at r
        exact r
      have BV2 := hiddenG bv
      clear bv GR0 GR1 FOF
      have hw2V : w2.heap.size < (w2.alloc (.cells #[.string (str nm), .slice x1 As.length d1, .slice x2 Es.length d2, .slice x3 Ps.length d3, .slice x4 Os.length d4] 26)).heap.size := G5.out.lt
      generalize w2.alloc (.cells #[.string (str nm), .slice x1 As.length d1, .slice x2 Es.length d2, .slice x3 Ps.length d3, .slice x4 Os.length d4] 26) = V2 at *
      go_upto_region 8 with (first
        | (refine wpList_storeW _ rfl 114 (.tmp 6) (.tmp 44) rfl rfl w3.heap.size 114 _ _ rfl rfl (blkA_new 114 w3 #[.int .i64 0, .int .u8 0, .int .i64 0, .int .i64 0]) sizW8 rfl rfl ?_; intro w4 hN hU; have N4 := hiddenG hN; have U4 := hiddenG hU; clear hN hU)
        | (go_at_call 59; (with_reducible refine FF.out.mono ?_); rintro e w3 ⟨rfl, b3⟩; have B3 := hiddenG b3; clear b3 z0 z1 z2 z3 z4))
      have B34 : Hid (Below V2.heap.size V2 w4) := by
        have q := B3.out.alloc B3.out.size (.cells #[.int .i64 0, .int .u8 0, .int .i64 0, .int .i64 0] 114)
        exact q.trans (U4.out.below B3.out.size q.size)
      have B6 := hiddenG (BXV.out.below B34.out)
      have G6 := hiddenG (G5.out.below B34.out)
      have B24 := hiddenG (BV2.out.trans (B34.out.mono BV2.out.size))
      have F6 := N4
      obtain ⟨b6, hb6⟩ : ∃ q, w3.heap.size = q := ⟨_, rfl⟩
      have N61 : Hid (b6 ≠ w.heap.size + 1) := by
        have h1 := BXV.out.g.lt
        have h2 := B3.out.size
        show _ ≠ _
        omega
      have N62 : Hid (b6 ≠ w.heap.size + 2) := by
        have h1 := BXV.out.f.lt
        have h2 := B3.out.size
        show _ ≠ _
        omega
      rw [hb6] at F6 ⊢
      have f0 : w4.cell? ⟨b6, 0, none⟩ = some (.int .i64 fc) := F6.out.cell rfl
      clear FF B3 U4 N4 hb6 B34 BXV G5 B2 BV2
      by_cases hfc : fc = 0
      · subst hfc
        have hBS : buildS nm (L.map Prod.fst) = (lookS nm (L.map Prod.fst), 0, 0) := by rw [HBS.out, if_neg (by decide)]
        have YS := hiddenG (OYES.out (by rw [hBS]))
        have e1 : (lookS nm (L.map Prod.fst)).actors.length = As.length := by have q := congrArg List.length HLL.out.a; rw [List.length_map] at q; rw [← FSO.out rfl]; exact q.symm
        have e2 : (lookS nm (L.map Prod.fst)).edges.length = Es.length := by have q := congrArg List.length HLL.out.e; rw [List.length_map] at q; rw [← FSO.out rfl]; exact q.symm
        have e3 : (lookS nm (L.map Prod.fst)).ins.length = Ps.length := by rw [← FSO.out rfl, HLL.out.i]; rfl
        have e4 : (lookS nm (L.map Prod.fst)).outs.length = Os.length := by rw [← FSO.out rfl, HLL.out.o]; rfl
        have GFS := hiddenG (FSO.out rfl)
        have E1 := hiddenG e1
        have E2 := hiddenG e2
        have E3 := hiddenG e3
        have E4 := hiddenG e4
        clear hBS e1 e2 e3 e4 HBS FSO
        have z0 : w4.cell? ⟨w2.heap.size, 0, none⟩ = some (.string (str nm)) := G6.out.cell rfl
        have z1 : w4.cell? ⟨w2.heap.size, 1, none⟩ = some (.slice x1 As.length d1) := G6.out.cell rfl
        have z2 : w4.cell? ⟨w2.heap.size, 2, none⟩ = some (.slice x2 Es.length d2) := G6.out.cell rfl
        have z3 : w4.cell? ⟨w2.heap.size, 3, none⟩ = some (.slice x3 Ps.length d3) := G6.out.cell rfl
        have z4 : w4.cell? ⟨w2.heap.size, 4, none⟩ = some (.slice x4 Os.length d4) := G6.out.cell rfl
        go_wp2_with (first
          | (refine wpList_storeW _ rfl 33 (.tmp 3) (.tmp 49) rfl rfl (w.heap.size + 2) 33 _ _ rfl rfl BY.out.f sizU rfl rfl ?_; intro w8 hN hU; have BZ := hiddenG (BY.out.setF hN hU); have U8 := hiddenG hU; clear hN hU)
          | (refine wpList_storeW _ rfl 26 (.tmp 2) (.tmp 48) rfl rfl (w.heap.size + 1) 26 _ _ rfl rfl B6.out.g sizG rfl rfl ?_; intro w6 hN hU; have BY := hiddenG (B6.out.setG hN hU); have U6 := hiddenG hU; clear hN hU))
        have r0 : w8.cell? ⟨w.heap.size + 1, 0, none⟩ = some (.string (str nm)) := BZ.out.g.cell rfl
        have r1 : w8.cell? ⟨w.heap.size + 1, 1, none⟩ = some (.slice x1 As.length d1) := BZ.out.g.cell rfl
        have r2 : w8.cell? ⟨w.heap.size + 1, 2, none⟩ = some (.slice x2 Es.length d2) := BZ.out.g.cell rfl
        have r3 : w8.cell? ⟨w.heap.size + 1, 3, none⟩ = some (.slice x3 Ps.length d3) := BZ.out.g.cell rfl
        have r4 : w8.cell? ⟨w.heap.size + 1, 4, none⟩ = some (.slice x4 Os.length d4) := BZ.out.g.cell rfl
        have u0 : w8.cell? ⟨w.heap.size + 2, 0, none⟩ = some (.int .i64 0) := BZ.out.f.cell rfl
        have u1 : w8.cell? ⟨w.heap.size + 2, 1, none⟩ = some (.int .i64 0) := BZ.out.f.cell rfl
        refine bodyPost_ret (v := .tuple #[.agg #[.string (str nm), .slice x1 As.length d1, .slice x2 Es.length d2, .slice x3 Ps.length d3, .slice x4 Os.length d4], .agg #[.int .i64 0, .int .i64 0]]) (by simp [results, Tryz.results26, go_sem, r0, r1, r2, r3, r4, u0, u1]) rfl ?_
        refine YS.out _ _ ⟨x1, x2, x3, x4, d1, d2, d3, d4, by rw [E1.out, E2.out, E3.out, E4.out], fun w9 hk9 => ?_, BZ.out.bel⟩
        have hw0 : w.heap.size + 2 < W0.heap.size := B0.out.f.lt
        have kp8 : ∀ {T c n : Nat} {v : Value} {xs : List Value}, w2.ownsRow W0.heap.size T c v n xs → w8.ownsRow W0.heap.size T c v n xs := fun r => ownR_keep r fun k e => by
          have q1 := own_row r k e
          have q2 := own_lt r k e
          have q3 := B24.out.size
          have q4 := U6.out.size
          exact ((U8.out.block k (by omega) (by omega)).trans (U6.out.block k (by omega) (by omega))).trans (B24.out.block k q2)
        have kp : ∀ {T c n : Nat} {v : Value} {xs : List Value}, w2.ownsRow W0.heap.size T c v n xs → w9.ownsRow W0.heap.size T c v n xs := fun r => ownR_keep (kp8 r) fun k e => hk9 k (by have := own_row (kp8 r) k e; omega) (own_lt (kp8 r) k e)
        rw [← GFS.out]
        exact of_gr (kp R1.out) (kp R2.out) (kp R3.out) (kp R4.out) HLL.out (fun p hp => ⟨(PA.out p hp).1, (PA.out p hp).2.1, kp (PA.out p hp).2.2⟩) (fun p hp => ⟨(PE.out p hp).1, kp (PE.out p hp).2⟩) KLEN.out
      · have hfb : (fc == 0) = false := by simpa using hfc
        have hBS : (buildS nm (L.map Prod.fst)).2 = (fc, placeG (L.map Prod.fst) 0 ⟨fc, fk, fnr, fs⟩) := by rw [HBS.out, if_pos hfc]
        have BH := hiddenG (ONO.out fc _ hfc hBS)
        obtain ⟨at9, hat9⟩ : ∃ q, placeG (L.map Prod.fst) 0 ⟨fc, fk, fnr, fs⟩ = q := ⟨_, rfl⟩
        rw [hat9] at BH
        have HAT := hiddenG hat9
        have HFC := hiddenG hfc
        clear hBS hat9 hfc HBS FSO R1 R2 R3 R4 PA PE G6 OYES ONO
        go_wp2
        clear f0
        go_loopg [7, 8] n (fun gk u v wr => ∃ k m : Nat, k ≤ n ∧ m ≤ k ∧ gk = n - k ∧ v = .int .i64 (k : Int) ∧ u = .int .i64 (m : Int) ∧ placeG ((L.map Prod.fst).drop k) m ⟨fc, fk, fnr, fs⟩ = at9 ∧ Bx w #[.string (str nm), .slice a n c] #[.string ⟨#[]⟩, .slice none 0 0, .slice none 0 0, .slice none 0 0, .slice none 0 0] #[.int .i64 0, .int .i64 0] wr ∧ BlkA 114 b6 wr #[.int .i64 fc, .int .u8 (fk : Int), .int .i64 (fnr : Int), .int .i64 (fs : Int)])
        case atStart => exact ⟨0, 0, Nat.zero_le _, Nat.le_refl _, rfl, rfl, rfl, HAT.out, B6.out, F6.out⟩
        case round =>
          clear B6 F6
          obtain ⟨k, m, hk, hm, rfl, rfl, rfl, hpl, hbx, hfx⟩ := hrel
          have HP := hiddenG hpl
          have BX := hiddenG hbx
          have FX := hiddenG hfx
          clear hpl hbx hfx
          have y1 : wr.cell? ⟨w.heap.size, 1, none⟩ = some (.slice a n c) := BX.out.s.cell rfl
          by_cases hlt : k < n
          · have hki : (k : Int) < (n : Int) := by omega
            have hkl : k < L.length := by have := HL.out; omega
            rcases (HR.out.below BX.out.bel).lie with e | ⟨gb, off, rfl, hc⟩
            · rw [e] at hkl; exact absurd hkl (Nat.not_lt_zero _)
            obtain ⟨c0, c1, c2, c3, c4, c5, c6, c7, c8, c9, c10⟩ := hc k hkl
            have hmem := nthI_mem (L := L) hkl
            obtain ⟨qa, qc, hq, -⟩ := HO.out.args _ hmem
            rw [hq] at c3
            have DI := drop_I hkl
            rw [DI, place_step] at HP
            generalize (nthI L k).1 = x at *
            obtain ⟨ki, xn, xt, nu, ⟨fn, fp, fa⟩, ⟨tn, tp, ta⟩, pl⟩ := x
            obtain ⟨qn, hqn⟩ : ∃ q, nu.length = q := ⟨_, rfl⟩
            simp only at c0 c1 c2 c3 c4 c5 c6 c7 c8 c9 c10 HP
            rw [hqn] at c3
            clear hc hq hmem hqn DI hkl
            have bv := (Below.refl wr.heap.size wr).alloc (Nat.le_refl _) (.cells #[.int .u8 ki, .string (str xn), .string (str xt), .slice qa qn qc, .string (str fn), .int .i64 fp, .int .i64 fa, .string (str tn), .int .i64 tp, .int .i64 ta, .int .i64 pl] 103)
            have BX4 := hiddenG (BX.out.below bv)
            have F4 := hiddenG (FX.out.below bv)
            have I4 := hiddenG (blkA_new 103 wr #[.int .u8 ki, .string (str xn), .string (str xt), .slice qa qn qc, .string (str fn), .int .i64 fp, .int .i64 fa, .string (str tn), .int .i64 tp, .int .i64 ta, .int .i64 pl])
            have hib1 : wr.heap.size ≠ w.heap.size + 1 := by have := BX.out.g.lt; omega
            have hib2 : wr.heap.size ≠ w.heap.size + 2 := by have := BX.out.f.lt; omega
            clear bv
            go_upto_region 15 with fail
            generalize wr.alloc (.cells #[.int .u8 ki, .string (str xn), .string (str xt), .slice qa qn qc, .string (str fn), .int .i64 fp, .int .i64 fa, .string (str tn), .int .i64 tp, .int .i64 ta, .int .i64 pl] 103) = W4 at *
            obtain ⟨ib, hib⟩ : ∃ q, wr.heap.size = q := ⟨_, rfl⟩
            rw [hib] at I4 hib1 hib2 ⊢
            have NI1 := hiddenG hib1
            have NI2 := hiddenG hib2
            clear hib hib1 hib2 c0 c1 c2 c3 c4 c5 c6 c7 c8 c9 c10 y1 BX FX
            have i0 : W4.cell? ⟨ib, 0, none⟩ = some (.int .u8 ki) := I4.out.cell rfl
            have f1 : W4.cell? ⟨b6, 1, none⟩ = some (.int .u8 (fk : Int)) := F4.out.cell rfl
            have f2 : W4.cell? ⟨b6, 2, none⟩ = some (.int .i64 (fnr : Int)) := F4.out.cell rfl
            have f3 : W4.cell? ⟨b6, 3, none⟩ = some (.int .i64 (fs : Int)) := F4.out.cell rfl
            by_cases hkd : ki = (fk : Int)
            · have hkb : (ki != (fk : Int)) = false := by simpa using hkd
              rw [if_pos hkd] at HP
              by_cases hmn : m = fnr
              · have hmb : ((m : Int) == (fnr : Int)) = true := by simp; omega
                rw [if_pos hmn] at HP
                clear hkd hmn
                by_cases h1 : fs = 1
                · have h1b : ((fs : Int) == 1) = true := by simp; omega
                  have e9 : fa = at9 := by rw [← HP.out]; unfold withinS; rw [if_pos h1]
                  subst e9
                  clear h1 HP
                  go_upto_region 19 with fail
                  clear i0 f1 f2 f3
                  refine wp_region_gen [7, 8] (fun d i u z => match i with
                      | 0 => z = .agg #[.string ⟨#[]⟩, .slice none 0 0, .slice none 0 0, .slice none 0 0, .slice none 0 0]
                      | 1 => z = .pointer (some ⟨b6, 0, none⟩)
                      | 2 => z = .int .i64 fc
                      | 3 => z = .pointer (some ⟨ib, 4, none⟩)
                      | 4 => z = .pointer (some ⟨ib, 6, none⟩)
                      | 5 => z = .int .i64 fa
                      | 6 => z = .agg #[.int .i64 fc, .int .i64 fa]
                      | 7 => True
                      | 8 => True
                      | _ => True) (fun d u => (d 8 = true → Bx w #[.string (str nm), .slice (some ⟨gb, off, none⟩) n c] #[.string ⟨#[]⟩, .slice none 0 0, .slice none 0 0, .slice none 0 0, .slice none 0 0] #[.int .i64 fc, .int .i64 fa] u) ∧ (d 8 = false → Bx w #[.string (str nm), .slice (some ⟨gb, off, none⟩) n c] #[.string ⟨#[]⟩, .slice none 0 0, .slice none 0 0, .slice none 0 0, .slice none 0 0] #[.int .i64 0, .int .i64 0] u) ∧ BlkA 114 b6 u #[.int .i64 fc, .int .u8 (fk : Int), .int .i64 (fnr : Int), .int .i64 (fs : Int)] ∧ BlkA 103 ib u #[.int .u8 ki, .string (str xn), .string (str xt), .slice qa qn qc, .string (str fn), .int .i64 fp, .int .i64 fa, .string (str tn), .int .i64 tp, .int .i64 ta, .int .i64 pl]) (by kernel_rfl) (by kernel_rfl) (by kernel_rfl) ?_ ?_ ?_ ?_ ?_ ?_ (by kernel_rfl)
                  · intro d i w v w' h hb
                    match i, h with
                    | 0, h => exact h
                    | 1, h => exact h
                    | 2, h => exact h
                    | 3, h => exact h
                    | 4, h => exact h
                    | 5, h => exact h
                    | 6, h => exact h
                    | 7, h => exact h
                    | 8, h => exact h
                    | _ + 9, _ => trivial
                  · intro d u u' h hb
                    exact ⟨fun e => (h.1 e).below hb, fun e => (h.2.1 e).below hb, h.2.2.1.below hb, h.2.2.2.below hb⟩
                  · exact ⟨fun e => absurd e (by decide), fun _ => BX4.out, F4.out, I4.out⟩
                  · intro d i o ρ w' hm ho hf hg hC hcs hfs hfr hdep
                    match i, hm, ho, hf, hg, hfr, hdep with
                    | 0, _, ho, hf, hg, hfr, hdep =>
                      simp only [gTA, gCZ, gSI] at ho
                      subst ho
                      refine ⟨fun _ => ?_, fun hw => absurd (show true = false from hw) (by decide)⟩
                      simp [go_sem]
                      exact ⟨Below.refl _ _, rfl⟩
                    | 1, _, ho, hf, hg, hfr, hdep =>
                      simp only [gTA, gCZ, gCS, gSI] at ho
                      subst ho
                      refine ⟨fun _ => ?_, fun hw => absurd (show true = false from hw) (by decide)⟩
                      have ts : ρ (.tmp 6) = .pointer (some ⟨b6, 0, none⟩) := hfr 6 (by kernel_rfl)
                      simp [go_sem, ts]
                      exact ⟨Below.refl _ _, rfl⟩
                    | 2, _, ho, hf, hg, hfr, hdep =>
                      simp only [gTA, gCZ, gCS, gSI] at ho
                      subst ho
                      refine ⟨fun _ => ?_, fun hw => absurd (show true = false from hw) (by decide)⟩
                      have cc : w'.cell? ⟨b6, 0, none⟩ = some (.int .i64 fc) := hC.2.2.1.cell rfl
                      have d0 : ρ (.tmp 76) = .pointer (some ⟨b6, 0, none⟩) := hdep 1 76 (by kernel_rfl) (by kernel_rfl)
                      simp [go_sem, d0, cc]
                      exact ⟨Below.refl _ _, rfl⟩
                    | 3, _, ho, hf, hg, hfr, hdep =>
                      simp only [gTA, gCZ, gCS, gSI] at ho
                      subst ho
                      refine ⟨fun _ => ?_, fun hw => absurd (show true = false from hw) (by decide)⟩
                      have ts : ρ (.tmp 9) = .pointer (some ⟨ib, 0, none⟩) := hfr 9 (by kernel_rfl)
                      simp [go_sem, ts]
                      exact ⟨Below.refl _ _, rfl⟩
                    | 4, _, ho, hf, hg, hfr, hdep =>
                      simp only [gTA, gCZ, gCS, gSI] at ho
                      subst ho
                      refine ⟨fun _ => ?_, fun hw => absurd (show true = false from hw) (by decide)⟩
                      have d0 : ρ (.tmp 78) = .pointer (some ⟨ib, 4, none⟩) := hdep 3 78 (by kernel_rfl) (by kernel_rfl)
                      simp [go_sem, d0]
                      exact ⟨Below.refl _ _, rfl⟩
                    | 5, _, ho, hf, hg, hfr, hdep =>
                      simp only [gTA, gCZ, gCS, gSI] at ho
                      subst ho
                      refine ⟨fun _ => ?_, fun hw => absurd (show true = false from hw) (by decide)⟩
                      have cc : w'.cell? ⟨ib, 6, none⟩ = some (.int .i64 fa) := hC.2.2.2.cell rfl
                      have d0 : ρ (.tmp 79) = .pointer (some ⟨ib, 6, none⟩) := hdep 4 79 (by kernel_rfl) (by kernel_rfl)
                      simp [go_sem, d0, cc]
                      exact ⟨Below.refl _ _, rfl⟩
                    | 6, _, ho, hf, hg, hfr, hdep =>
                      simp only [gTA, gCZ, gCS, gSI] at ho
                      subst ho
                      refine ⟨fun _ => ?_, fun hw => absurd (show true = false from hw) (by decide)⟩
                      have d0 : ρ (.tmp 77) = .int .i64 fc := hdep 2 77 (by kernel_rfl) (by kernel_rfl)
                      have d1 : ρ (.tmp 80) = .int .i64 fa := hdep 5 80 (by kernel_rfl) (by kernel_rfl)
                      simp [go_sem, d0, d1]
                      exact ⟨Below.refl _ _, rfl⟩
                    | 7, hm, _, _, _, _, _ => exact absurd hm (by decide)
                    | 8, hm, _, _, _, _, _ => exact absurd hm (by decide)
                    | n + 9, _, ho, _, _, _, _ => simp at ho
                  · intro d i o ρ w' hm ho h0 hf hg hC hcs hfs hfr hdep
                    match i, hm, ho, h0, hf, hg, hfr, hdep with
                    | 0, hm, _, _, _, _, _, _ => exact absurd hm (by decide)
                    | 1, hm, _, _, _, _, _, _ => exact absurd hm (by decide)
                    | 2, hm, _, _, _, _, _, _ => exact absurd hm (by decide)
                    | 3, hm, _, _, _, _, _, _ => exact absurd hm (by decide)
                    | 4, hm, _, _, _, _, _, _ => exact absurd hm (by decide)
                    | 5, hm, _, _, _, _, _, _ => exact absurd hm (by decide)
                    | 6, hm, _, _, _, _, _, _ => exact absurd hm (by decide)
                    | 7, _, ho, h0, hf, hg, hfr, hdep =>
                      simp only [gTA, gCZ, gCS, gSI] at ho
                      subst ho
                      refine ⟨rfl, ?_⟩
                      have t0 : ρ (.tmp 75) = .agg #[.string ⟨#[]⟩, .slice none 0 0, .slice none 0 0, .slice none 0 0, .slice none 0 0] := hdep 0 75 (by kernel_rfl) (by kernel_rfl)
                      have tp : ρ (.tmp 2) = .pointer (some ⟨w.heap.size + 1, 0, none⟩) := hfr 2 (by kernel_rfl)
                      refine mark_storeW 26 (.tmp 2) (.tmp 75) rfl (w.heap.size + 1) 26 _ _ tp t0 (hC.2.1 (hf 8 (by decide) (by kernel_rfl))).g sizG rfl rfl ?_
                      intro w8 hB8 hU8
                      refine ⟨⟨fun e => absurd ((hf 8 (by decide) (by kernel_rfl)).symm.trans (by simpa [doneAt] using e)) (by decide), fun _ => (hC.2.1 (hf 8 (by decide) (by kernel_rfl))).setG hB8 hU8, hC.2.2.1.keep (hU8.block _ hC.2.2.1.lt N61.out), hC.2.2.2.keep (hU8.block _ hC.2.2.2.lt NI1.out)⟩, fun h => absurd rfl h, ?_⟩
                      intro j t _ hs
                      match j, hs with
                      | 0, hs => exact hs
                      | 1, hs => exact hs
                      | 2, hs => exact hs
                      | 3, hs => exact hs
                      | 4, hs => exact hs
                      | 5, hs => exact hs
                      | 6, hs => exact hs
                      | 7, hs => exact hs
                      | 8, hs => exact hs
                      | _ + 9, _ => trivial
                    | 8, _, ho, h0, hf, hg, hfr, hdep =>
                      simp only [gTA, gCZ, gCS, gSI] at ho
                      subst ho
                      refine ⟨rfl, ?_⟩
                      have t0 : ρ (.tmp 81) = .agg #[.int .i64 fc, .int .i64 fa] := hdep 6 81 (by kernel_rfl) (by kernel_rfl)
                      have tp : ρ (.tmp 3) = .pointer (some ⟨w.heap.size + 2, 0, none⟩) := hfr 3 (by kernel_rfl)
                      refine mark_storeW 33 (.tmp 3) (.tmp 81) rfl (w.heap.size + 2) 33 _ _ tp t0 (hC.2.1 h0).f sizU rfl rfl ?_
                      intro w8 hB8 hU8
                      refine ⟨⟨fun _ => (hC.2.1 h0).setF hB8 hU8, fun e => absurd e (by simp [doneAt]), hC.2.2.1.keep (hU8.block _ hC.2.2.1.lt N62.out), hC.2.2.2.keep (hU8.block _ hC.2.2.2.lt NI2.out)⟩, fun h => absurd rfl h, ?_⟩
                      intro j t _ hs
                      match j, hs with
                      | 0, hs => exact hs
                      | 1, hs => exact hs
                      | 2, hs => exact hs
                      | 3, hs => exact hs
                      | 4, hs => exact hs
                      | 5, hs => exact hs
                      | 6, hs => exact hs
                      | 7, hs => exact hs
                      | 8, hs => exact hs
                      | _ + 9, _ => trivial
                    | n + 9, _, ho, _, _, _, _, _ => simp at ho
                  · intro V w9 hC9 hS
                    simp only [puts, put_none]
                    simp only [Act.put, List.setIfInBounds_toArray, List.set_cons_zero, List.set_cons_succ]
                    clear hS 
                    have BZ := hiddenG (hC9.1 rfl)
                    clear hC9
                    go_wp2
                    have r0 : w9.cell? ⟨w.heap.size + 1, 0, none⟩ = some (.string ⟨#[]⟩) := BZ.out.g.cell rfl
                    have r1 : w9.cell? ⟨w.heap.size + 1, 1, none⟩ = some (.slice none 0 0) := BZ.out.g.cell rfl
                    have r2 : w9.cell? ⟨w.heap.size + 1, 2, none⟩ = some (.slice none 0 0) := BZ.out.g.cell rfl
                    have r3 : w9.cell? ⟨w.heap.size + 1, 3, none⟩ = some (.slice none 0 0) := BZ.out.g.cell rfl
                    have r4 : w9.cell? ⟨w.heap.size + 1, 4, none⟩ = some (.slice none 0 0) := BZ.out.g.cell rfl
                    have u0 : w9.cell? ⟨w.heap.size + 2, 0, none⟩ = some (.int .i64 fc) := BZ.out.f.cell rfl
                    have u1 : w9.cell? ⟨w.heap.size + 2, 1, none⟩ = some (.int .i64 fa) := BZ.out.f.cell rfl
                    refine bodyPost_ret (v := .tuple #[.agg #[.string ⟨#[]⟩, .slice none 0 0, .slice none 0 0, .slice none 0 0, .slice none 0 0], .agg #[.int .i64 fc, .int .i64 fa]]) (by simp [results, Tryz.results26, go_sem, r0, r1, r2, r3, r4, u0, u1]) rfl ?_
                    exact BH.out _ _ ⟨rfl, BZ.out.bel⟩
                · have h1b : ((fs : Int) == 1) = false := by simp; omega
                  by_cases h2 : fs = 2
                  · have h2b : ((fs : Int) == 2) = true := by simp; omega
                    have e9 : ta = at9 := by rw [← HP.out]; unfold withinS; rw [if_neg h1, if_pos h2]
                    subst e9
                    clear h1 h2 HP
                    go_upto_region 21 with fail
                    clear i0 f1 f2 f3
                    refine wp_region_gen [7, 8] (fun d i u z => match i with
                        | 0 => z = .agg #[.string ⟨#[]⟩, .slice none 0 0, .slice none 0 0, .slice none 0 0, .slice none 0 0]
                        | 1 => z = .pointer (some ⟨b6, 0, none⟩)
                        | 2 => z = .int .i64 fc
                        | 3 => z = .pointer (some ⟨ib, 7, none⟩)
                        | 4 => z = .pointer (some ⟨ib, 9, none⟩)
                        | 5 => z = .int .i64 ta
                        | 6 => z = .agg #[.int .i64 fc, .int .i64 ta]
                        | 7 => True
                        | 8 => True
                        | _ => True) (fun d u => (d 8 = true → Bx w #[.string (str nm), .slice (some ⟨gb, off, none⟩) n c] #[.string ⟨#[]⟩, .slice none 0 0, .slice none 0 0, .slice none 0 0, .slice none 0 0] #[.int .i64 fc, .int .i64 ta] u) ∧ (d 8 = false → Bx w #[.string (str nm), .slice (some ⟨gb, off, none⟩) n c] #[.string ⟨#[]⟩, .slice none 0 0, .slice none 0 0, .slice none 0 0, .slice none 0 0] #[.int .i64 0, .int .i64 0] u) ∧ BlkA 114 b6 u #[.int .i64 fc, .int .u8 (fk : Int), .int .i64 (fnr : Int), .int .i64 (fs : Int)] ∧ BlkA 103 ib u #[.int .u8 ki, .string (str xn), .string (str xt), .slice qa qn qc, .string (str fn), .int .i64 fp, .int .i64 fa, .string (str tn), .int .i64 tp, .int .i64 ta, .int .i64 pl]) (by kernel_rfl) (by kernel_rfl) (by kernel_rfl) ?_ ?_ ?_ ?_ ?_ ?_ (by kernel_rfl)
                    · intro d i w v w' h hb
                      match i, h with
                      | 0, h => exact h
                      | 1, h => exact h
                      | 2, h => exact h
                      | 3, h => exact h
                      | 4, h => exact h
                      | 5, h => exact h
                      | 6, h => exact h
                      | 7, h => exact h
                      | 8, h => exact h
                      | _ + 9, _ => trivial
                    · intro d u u' h hb
                      exact ⟨fun e => (h.1 e).below hb, fun e => (h.2.1 e).below hb, h.2.2.1.below hb, h.2.2.2.below hb⟩
                    · exact ⟨fun e => absurd e (by decide), fun _ => BX4.out, F4.out, I4.out⟩
                    · intro d i o ρ w' hm ho hf hg hC hcs hfs hfr hdep
                      match i, hm, ho, hf, hg, hfr, hdep with
                      | 0, _, ho, hf, hg, hfr, hdep =>
                        simp only [gTA, gCZ, gSI] at ho
                        subst ho
                        refine ⟨fun _ => ?_, fun hw => absurd (show true = false from hw) (by decide)⟩
                        simp [go_sem]
                        exact ⟨Below.refl _ _, rfl⟩
                      | 1, _, ho, hf, hg, hfr, hdep =>
                        simp only [gTA, gCZ, gCS, gSI] at ho
                        subst ho
                        refine ⟨fun _ => ?_, fun hw => absurd (show true = false from hw) (by decide)⟩
                        have ts : ρ (.tmp 6) = .pointer (some ⟨b6, 0, none⟩) := hfr 6 (by kernel_rfl)
                        simp [go_sem, ts]
                        exact ⟨Below.refl _ _, rfl⟩
                      | 2, _, ho, hf, hg, hfr, hdep =>
                        simp only [gTA, gCZ, gCS, gSI] at ho
                        subst ho
                        refine ⟨fun _ => ?_, fun hw => absurd (show true = false from hw) (by decide)⟩
                        have cc : w'.cell? ⟨b6, 0, none⟩ = some (.int .i64 fc) := hC.2.2.1.cell rfl
                        have d0 : ρ (.tmp 85) = .pointer (some ⟨b6, 0, none⟩) := hdep 1 85 (by kernel_rfl) (by kernel_rfl)
                        simp [go_sem, d0, cc]
                        exact ⟨Below.refl _ _, rfl⟩
                      | 3, _, ho, hf, hg, hfr, hdep =>
                        simp only [gTA, gCZ, gCS, gSI] at ho
                        subst ho
                        refine ⟨fun _ => ?_, fun hw => absurd (show true = false from hw) (by decide)⟩
                        have ts : ρ (.tmp 9) = .pointer (some ⟨ib, 0, none⟩) := hfr 9 (by kernel_rfl)
                        simp [go_sem, ts]
                        exact ⟨Below.refl _ _, rfl⟩
                      | 4, _, ho, hf, hg, hfr, hdep =>
                        simp only [gTA, gCZ, gCS, gSI] at ho
                        subst ho
                        refine ⟨fun _ => ?_, fun hw => absurd (show true = false from hw) (by decide)⟩
                        have d0 : ρ (.tmp 87) = .pointer (some ⟨ib, 7, none⟩) := hdep 3 87 (by kernel_rfl) (by kernel_rfl)
                        simp [go_sem, d0]
                        exact ⟨Below.refl _ _, rfl⟩
                      | 5, _, ho, hf, hg, hfr, hdep =>
                        simp only [gTA, gCZ, gCS, gSI] at ho
                        subst ho
                        refine ⟨fun _ => ?_, fun hw => absurd (show true = false from hw) (by decide)⟩
                        have cc : w'.cell? ⟨ib, 9, none⟩ = some (.int .i64 ta) := hC.2.2.2.cell rfl
                        have d0 : ρ (.tmp 88) = .pointer (some ⟨ib, 9, none⟩) := hdep 4 88 (by kernel_rfl) (by kernel_rfl)
                        simp [go_sem, d0, cc]
                        exact ⟨Below.refl _ _, rfl⟩
                      | 6, _, ho, hf, hg, hfr, hdep =>
                        simp only [gTA, gCZ, gCS, gSI] at ho
                        subst ho
                        refine ⟨fun _ => ?_, fun hw => absurd (show true = false from hw) (by decide)⟩
                        have d0 : ρ (.tmp 86) = .int .i64 fc := hdep 2 86 (by kernel_rfl) (by kernel_rfl)
                        have d1 : ρ (.tmp 89) = .int .i64 ta := hdep 5 89 (by kernel_rfl) (by kernel_rfl)
                        simp [go_sem, d0, d1]
                        exact ⟨Below.refl _ _, rfl⟩
                      | 7, hm, _, _, _, _, _ => exact absurd hm (by decide)
                      | 8, hm, _, _, _, _, _ => exact absurd hm (by decide)
                      | n + 9, _, ho, _, _, _, _ => simp at ho
                    · intro d i o ρ w' hm ho h0 hf hg hC hcs hfs hfr hdep
                      match i, hm, ho, h0, hf, hg, hfr, hdep with
                      | 0, hm, _, _, _, _, _, _ => exact absurd hm (by decide)
                      | 1, hm, _, _, _, _, _, _ => exact absurd hm (by decide)
                      | 2, hm, _, _, _, _, _, _ => exact absurd hm (by decide)
                      | 3, hm, _, _, _, _, _, _ => exact absurd hm (by decide)
                      | 4, hm, _, _, _, _, _, _ => exact absurd hm (by decide)
                      | 5, hm, _, _, _, _, _, _ => exact absurd hm (by decide)
                      | 6, hm, _, _, _, _, _, _ => exact absurd hm (by decide)
                      | 7, _, ho, h0, hf, hg, hfr, hdep =>
                        simp only [gTA, gCZ, gCS, gSI] at ho
                        subst ho
                        refine ⟨rfl, ?_⟩
                        have t0 : ρ (.tmp 84) = .agg #[.string ⟨#[]⟩, .slice none 0 0, .slice none 0 0, .slice none 0 0, .slice none 0 0] := hdep 0 84 (by kernel_rfl) (by kernel_rfl)
                        have tp : ρ (.tmp 2) = .pointer (some ⟨w.heap.size + 1, 0, none⟩) := hfr 2 (by kernel_rfl)
                        refine mark_storeW 26 (.tmp 2) (.tmp 84) rfl (w.heap.size + 1) 26 _ _ tp t0 (hC.2.1 (hf 8 (by decide) (by kernel_rfl))).g sizG rfl rfl ?_
                        intro w8 hB8 hU8
                        refine ⟨⟨fun e => absurd ((hf 8 (by decide) (by kernel_rfl)).symm.trans (by simpa [doneAt] using e)) (by decide), fun _ => (hC.2.1 (hf 8 (by decide) (by kernel_rfl))).setG hB8 hU8, hC.2.2.1.keep (hU8.block _ hC.2.2.1.lt N61.out), hC.2.2.2.keep (hU8.block _ hC.2.2.2.lt NI1.out)⟩, fun h => absurd rfl h, ?_⟩
                        intro j t _ hs
                        match j, hs with
                        | 0, hs => exact hs
                        | 1, hs => exact hs
                        | 2, hs => exact hs
                        | 3, hs => exact hs
                        | 4, hs => exact hs
                        | 5, hs => exact hs
                        | 6, hs => exact hs
                        | 7, hs => exact hs
                        | 8, hs => exact hs
                        | _ + 9, _ => trivial
                      | 8, _, ho, h0, hf, hg, hfr, hdep =>
                        simp only [gTA, gCZ, gCS, gSI] at ho
                        subst ho
                        refine ⟨rfl, ?_⟩
                        have t0 : ρ (.tmp 90) = .agg #[.int .i64 fc, .int .i64 ta] := hdep 6 90 (by kernel_rfl) (by kernel_rfl)
                        have tp : ρ (.tmp 3) = .pointer (some ⟨w.heap.size + 2, 0, none⟩) := hfr 3 (by kernel_rfl)
                        refine mark_storeW 33 (.tmp 3) (.tmp 90) rfl (w.heap.size + 2) 33 _ _ tp t0 (hC.2.1 h0).f sizU rfl rfl ?_
                        intro w8 hB8 hU8
                        refine ⟨⟨fun _ => (hC.2.1 h0).setF hB8 hU8, fun e => absurd e (by simp [doneAt]), hC.2.2.1.keep (hU8.block _ hC.2.2.1.lt N62.out), hC.2.2.2.keep (hU8.block _ hC.2.2.2.lt NI2.out)⟩, fun h => absurd rfl h, ?_⟩
                        intro j t _ hs
                        match j, hs with
                        | 0, hs => exact hs
                        | 1, hs => exact hs
                        | 2, hs => exact hs
                        | 3, hs => exact hs
                        | 4, hs => exact hs
                        | 5, hs => exact hs
                        | 6, hs => exact hs
                        | 7, hs => exact hs
                        | 8, hs => exact hs
                        | _ + 9, _ => trivial
                      | n + 9, _, ho, _, _, _, _, _ => simp at ho
                    · intro V w9 hC9 hS
                      simp only [puts, put_none]
                      simp only [Act.put, List.setIfInBounds_toArray, List.set_cons_zero, List.set_cons_succ]
                      clear hS 
                      have BZ := hiddenG (hC9.1 rfl)
                      clear hC9
                      go_wp2
                      have r0 : w9.cell? ⟨w.heap.size + 1, 0, none⟩ = some (.string ⟨#[]⟩) := BZ.out.g.cell rfl
                      have r1 : w9.cell? ⟨w.heap.size + 1, 1, none⟩ = some (.slice none 0 0) := BZ.out.g.cell rfl
                      have r2 : w9.cell? ⟨w.heap.size + 1, 2, none⟩ = some (.slice none 0 0) := BZ.out.g.cell rfl
                      have r3 : w9.cell? ⟨w.heap.size + 1, 3, none⟩ = some (.slice none 0 0) := BZ.out.g.cell rfl
                      have r4 : w9.cell? ⟨w.heap.size + 1, 4, none⟩ = some (.slice none 0 0) := BZ.out.g.cell rfl
                      have u0 : w9.cell? ⟨w.heap.size + 2, 0, none⟩ = some (.int .i64 fc) := BZ.out.f.cell rfl
                      have u1 : w9.cell? ⟨w.heap.size + 2, 1, none⟩ = some (.int .i64 ta) := BZ.out.f.cell rfl
                      refine bodyPost_ret (v := .tuple #[.agg #[.string ⟨#[]⟩, .slice none 0 0, .slice none 0 0, .slice none 0 0, .slice none 0 0], .agg #[.int .i64 fc, .int .i64 ta]]) (by simp [results, Tryz.results26, go_sem, r0, r1, r2, r3, r4, u0, u1]) rfl ?_
                      exact BH.out _ _ ⟨rfl, BZ.out.bel⟩
                  · have h2b : ((fs : Int) == 2) = false := by simp; omega
                    have e9 : pl = at9 := by rw [← HP.out]; unfold withinS; rw [if_neg h1, if_neg h2]
                    subst e9
                    clear h1 h2 HP
                    go_upto_region 22 with fail
                    clear i0 f1 f2 f3
                    refine wp_region_gen [6, 7] (fun d i u z => match i with
                        | 0 => z = .agg #[.string ⟨#[]⟩, .slice none 0 0, .slice none 0 0, .slice none 0 0, .slice none 0 0]
                        | 1 => z = .pointer (some ⟨b6, 0, none⟩)
                        | 2 => z = .int .i64 fc
                        | 3 => z = .pointer (some ⟨ib, 10, none⟩)
                        | 4 => z = .int .i64 pl
                        | 5 => z = .agg #[.int .i64 fc, .int .i64 pl]
                        | 6 => True
                        | 7 => True
                        | _ => True) (fun d u => (d 7 = true → Bx w #[.string (str nm), .slice (some ⟨gb, off, none⟩) n c] #[.string ⟨#[]⟩, .slice none 0 0, .slice none 0 0, .slice none 0 0, .slice none 0 0] #[.int .i64 fc, .int .i64 pl] u) ∧ (d 7 = false → Bx w #[.string (str nm), .slice (some ⟨gb, off, none⟩) n c] #[.string ⟨#[]⟩, .slice none 0 0, .slice none 0 0, .slice none 0 0, .slice none 0 0] #[.int .i64 0, .int .i64 0] u) ∧ BlkA 114 b6 u #[.int .i64 fc, .int .u8 (fk : Int), .int .i64 (fnr : Int), .int .i64 (fs : Int)] ∧ BlkA 103 ib u #[.int .u8 ki, .string (str xn), .string (str xt), .slice qa qn qc, .string (str fn), .int .i64 fp, .int .i64 fa, .string (str tn), .int .i64 tp, .int .i64 ta, .int .i64 pl]) (by kernel_rfl) (by kernel_rfl) (by kernel_rfl) ?_ ?_ ?_ ?_ ?_ ?_ (by kernel_rfl)
                    · intro d i w v w' h hb
                      match i, h with
                      | 0, h => exact h
                      | 1, h => exact h
                      | 2, h => exact h
                      | 3, h => exact h
                      | 4, h => exact h
                      | 5, h => exact h
                      | 6, h => exact h
                      | 7, h => exact h
                      | _ + 8, _ => trivial
                    · intro d u u' h hb
                      exact ⟨fun e => (h.1 e).below hb, fun e => (h.2.1 e).below hb, h.2.2.1.below hb, h.2.2.2.below hb⟩
                    · exact ⟨fun e => absurd e (by decide), fun _ => BX4.out, F4.out, I4.out⟩
                    · intro d i o ρ w' hm ho hf hg hC hcs hfs hfr hdep
                      match i, hm, ho, hf, hg, hfr, hdep with
                      | 0, _, ho, hf, hg, hfr, hdep =>
                        simp only [gTA, gCZ, gSI] at ho
                        subst ho
                        refine ⟨fun _ => ?_, fun hw => absurd (show true = false from hw) (by decide)⟩
                        simp [go_sem]
                        exact ⟨Below.refl _ _, rfl⟩
                      | 1, _, ho, hf, hg, hfr, hdep =>
                        simp only [gTA, gCZ, gCS, gSI] at ho
                        subst ho
                        refine ⟨fun _ => ?_, fun hw => absurd (show true = false from hw) (by decide)⟩
                        have ts : ρ (.tmp 6) = .pointer (some ⟨b6, 0, none⟩) := hfr 6 (by kernel_rfl)
                        simp [go_sem, ts]
                        exact ⟨Below.refl _ _, rfl⟩
                      | 2, _, ho, hf, hg, hfr, hdep =>
                        simp only [gTA, gCZ, gCS, gSI] at ho
                        subst ho
                        refine ⟨fun _ => ?_, fun hw => absurd (show true = false from hw) (by decide)⟩
                        have cc : w'.cell? ⟨b6, 0, none⟩ = some (.int .i64 fc) := hC.2.2.1.cell rfl
                        have d0 : ρ (.tmp 92) = .pointer (some ⟨b6, 0, none⟩) := hdep 1 92 (by kernel_rfl) (by kernel_rfl)
                        simp [go_sem, d0, cc]
                        exact ⟨Below.refl _ _, rfl⟩
                      | 3, _, ho, hf, hg, hfr, hdep =>
                        simp only [gTA, gCZ, gCS, gSI] at ho
                        subst ho
                        refine ⟨fun _ => ?_, fun hw => absurd (show true = false from hw) (by decide)⟩
                        have ts : ρ (.tmp 9) = .pointer (some ⟨ib, 0, none⟩) := hfr 9 (by kernel_rfl)
                        simp [go_sem, ts]
                        exact ⟨Below.refl _ _, rfl⟩
                      | 4, _, ho, hf, hg, hfr, hdep =>
                        simp only [gTA, gCZ, gCS, gSI] at ho
                        subst ho
                        refine ⟨fun _ => ?_, fun hw => absurd (show true = false from hw) (by decide)⟩
                        have cc : w'.cell? ⟨ib, 10, none⟩ = some (.int .i64 pl) := hC.2.2.2.cell rfl
                        have d0 : ρ (.tmp 94) = .pointer (some ⟨ib, 10, none⟩) := hdep 3 94 (by kernel_rfl) (by kernel_rfl)
                        simp [go_sem, d0, cc]
                        exact ⟨Below.refl _ _, rfl⟩
                      | 5, _, ho, hf, hg, hfr, hdep =>
                        simp only [gTA, gCZ, gCS, gSI] at ho
                        subst ho
                        refine ⟨fun _ => ?_, fun hw => absurd (show true = false from hw) (by decide)⟩
                        have d0 : ρ (.tmp 93) = .int .i64 fc := hdep 2 93 (by kernel_rfl) (by kernel_rfl)
                        have d1 : ρ (.tmp 95) = .int .i64 pl := hdep 4 95 (by kernel_rfl) (by kernel_rfl)
                        simp [go_sem, d0, d1]
                        exact ⟨Below.refl _ _, rfl⟩
                      | 6, hm, _, _, _, _, _ => exact absurd hm (by decide)
                      | 7, hm, _, _, _, _, _ => exact absurd hm (by decide)
                      | n + 8, _, ho, _, _, _, _ => simp at ho
                    · intro d i o ρ w' hm ho h0 hf hg hC hcs hfs hfr hdep
                      match i, hm, ho, h0, hf, hg, hfr, hdep with
                      | 0, hm, _, _, _, _, _, _ => exact absurd hm (by decide)
                      | 1, hm, _, _, _, _, _, _ => exact absurd hm (by decide)
                      | 2, hm, _, _, _, _, _, _ => exact absurd hm (by decide)
                      | 3, hm, _, _, _, _, _, _ => exact absurd hm (by decide)
                      | 4, hm, _, _, _, _, _, _ => exact absurd hm (by decide)
                      | 5, hm, _, _, _, _, _, _ => exact absurd hm (by decide)
                      | 6, _, ho, h0, hf, hg, hfr, hdep =>
                        simp only [gTA, gCZ, gCS, gSI] at ho
                        subst ho
                        refine ⟨rfl, ?_⟩
                        have t0 : ρ (.tmp 91) = .agg #[.string ⟨#[]⟩, .slice none 0 0, .slice none 0 0, .slice none 0 0, .slice none 0 0] := hdep 0 91 (by kernel_rfl) (by kernel_rfl)
                        have tp : ρ (.tmp 2) = .pointer (some ⟨w.heap.size + 1, 0, none⟩) := hfr 2 (by kernel_rfl)
                        refine mark_storeW 26 (.tmp 2) (.tmp 91) rfl (w.heap.size + 1) 26 _ _ tp t0 (hC.2.1 (hf 7 (by decide) (by kernel_rfl))).g sizG rfl rfl ?_
                        intro w8 hB8 hU8
                        refine ⟨⟨fun e => absurd ((hf 7 (by decide) (by kernel_rfl)).symm.trans (by simpa [doneAt] using e)) (by decide), fun _ => (hC.2.1 (hf 7 (by decide) (by kernel_rfl))).setG hB8 hU8, hC.2.2.1.keep (hU8.block _ hC.2.2.1.lt N61.out), hC.2.2.2.keep (hU8.block _ hC.2.2.2.lt NI1.out)⟩, fun h => absurd rfl h, ?_⟩
                        intro j t _ hs
                        match j, hs with
                        | 0, hs => exact hs
                        | 1, hs => exact hs
                        | 2, hs => exact hs
                        | 3, hs => exact hs
                        | 4, hs => exact hs
                        | 5, hs => exact hs
                        | 6, hs => exact hs
                        | 7, hs => exact hs
                        | _ + 8, _ => trivial
                      | 7, _, ho, h0, hf, hg, hfr, hdep =>
                        simp only [gTA, gCZ, gCS, gSI] at ho
                        subst ho
                        refine ⟨rfl, ?_⟩
                        have t0 : ρ (.tmp 96) = .agg #[.int .i64 fc, .int .i64 pl] := hdep 5 96 (by kernel_rfl) (by kernel_rfl)
                        have tp : ρ (.tmp 3) = .pointer (some ⟨w.heap.size + 2, 0, none⟩) := hfr 3 (by kernel_rfl)
                        refine mark_storeW 33 (.tmp 3) (.tmp 96) rfl (w.heap.size + 2) 33 _ _ tp t0 (hC.2.1 h0).f sizU rfl rfl ?_
                        intro w8 hB8 hU8
                        refine ⟨⟨fun _ => (hC.2.1 h0).setF hB8 hU8, fun e => absurd e (by simp [doneAt]), hC.2.2.1.keep (hU8.block _ hC.2.2.1.lt N62.out), hC.2.2.2.keep (hU8.block _ hC.2.2.2.lt NI2.out)⟩, fun h => absurd rfl h, ?_⟩
                        intro j t _ hs
                        match j, hs with
                        | 0, hs => exact hs
                        | 1, hs => exact hs
                        | 2, hs => exact hs
                        | 3, hs => exact hs
                        | 4, hs => exact hs
                        | 5, hs => exact hs
                        | 6, hs => exact hs
                        | 7, hs => exact hs
                        | _ + 8, _ => trivial
                      | n + 8, _, ho, _, _, _, _, _ => simp at ho
                    · intro V w9 hC9 hS
                      simp only [puts, put_none]
                      simp only [Act.put, List.setIfInBounds_toArray, List.set_cons_zero, List.set_cons_succ]
                      clear hS 
                      have BZ := hiddenG (hC9.1 rfl)
                      clear hC9
                      go_wp2
                      have r0 : w9.cell? ⟨w.heap.size + 1, 0, none⟩ = some (.string ⟨#[]⟩) := BZ.out.g.cell rfl
                      have r1 : w9.cell? ⟨w.heap.size + 1, 1, none⟩ = some (.slice none 0 0) := BZ.out.g.cell rfl
                      have r2 : w9.cell? ⟨w.heap.size + 1, 2, none⟩ = some (.slice none 0 0) := BZ.out.g.cell rfl
                      have r3 : w9.cell? ⟨w.heap.size + 1, 3, none⟩ = some (.slice none 0 0) := BZ.out.g.cell rfl
                      have r4 : w9.cell? ⟨w.heap.size + 1, 4, none⟩ = some (.slice none 0 0) := BZ.out.g.cell rfl
                      have u0 : w9.cell? ⟨w.heap.size + 2, 0, none⟩ = some (.int .i64 fc) := BZ.out.f.cell rfl
                      have u1 : w9.cell? ⟨w.heap.size + 2, 1, none⟩ = some (.int .i64 pl) := BZ.out.f.cell rfl
                      refine bodyPost_ret (v := .tuple #[.agg #[.string ⟨#[]⟩, .slice none 0 0, .slice none 0 0, .slice none 0 0, .slice none 0 0], .agg #[.int .i64 fc, .int .i64 pl]]) (by simp [results, Tryz.results26, go_sem, r0, r1, r2, r3, r4, u0, u1]) rfl ?_
                      exact BH.out _ _ ⟨rfl, BZ.out.bel⟩
              · have hmb : ((m : Int) == (fnr : Int)) = false := by simp; omega
                rw [if_neg hmn] at HP
                clear hkd hmn
                go_wp2
                go_roundg (n - (k + 1))
                case measure => omega
                case rel => exact ⟨k + 1, m + 1, by omega, by omega, rfl, by go_num, by go_num, HP.out, BX4.out, F4.out⟩
            · have hkb : (ki != (fk : Int)) = true := by simpa using hkd
              rw [if_neg hkd] at HP
              clear hkd
              go_wp2
              go_roundg (n - (k + 1))
              case measure => omega
              case rel => exact ⟨k + 1, m, by omega, by omega, rfl, by go_num, rfl, HP.out, BX4.out, F4.out⟩
          · have hki : ¬ (k : Int) < (n : Int) := by omega
            have e9 : at9 = 0 := by
              rw [← HP.out, List.drop_of_length_le (by rw [List.length_map, HL.out]; omega)]
              rfl
            rw [e9] at BH
            clear e9 HP
            go_upto_region 24 with fail
            clear y1
            refine wp_region_gen [4, 5] (fun d i u z => match i with
                | 0 => z = .agg #[.string ⟨#[]⟩, .slice none 0 0, .slice none 0 0, .slice none 0 0, .slice none 0 0]
                | 1 => z = .pointer (some ⟨b6, 0, none⟩)
                | 2 => z = .int .i64 fc
                | 3 => z = .agg #[.int .i64 fc, .int .i64 0]
                | 4 => True
                | 5 => True
                | _ => True) (fun d u => (d 5 = true → Bx w #[.string (str nm), .slice a n c] #[.string ⟨#[]⟩, .slice none 0 0, .slice none 0 0, .slice none 0 0, .slice none 0 0] #[.int .i64 fc, .int .i64 0] u) ∧ (d 5 = false → Bx w #[.string (str nm), .slice a n c] #[.string ⟨#[]⟩, .slice none 0 0, .slice none 0 0, .slice none 0 0, .slice none 0 0] #[.int .i64 0, .int .i64 0] u) ∧ BlkA 114 b6 u #[.int .i64 fc, .int .u8 (fk : Int), .int .i64 (fnr : Int), .int .i64 (fs : Int)]) (by kernel_rfl) (by kernel_rfl) (by kernel_rfl) ?_ ?_ ?_ ?_ ?_ ?_ (by kernel_rfl)
            · intro d i w v w' h hb
              match i, h with
              | 0, h => exact h
              | 1, h => exact h
              | 2, h => exact h
              | 3, h => exact h
              | 4, h => exact h
              | 5, h => exact h
              | _ + 6, _ => trivial
            · intro d u u' h hb
              exact ⟨fun e => (h.1 e).below hb, fun e => (h.2.1 e).below hb, h.2.2.below hb⟩
            · exact ⟨fun e => absurd e (by decide), fun _ => BX.out, FX.out⟩
            · intro d i o ρ w' hm ho hf hg hC hcs hfs hfr hdep
              match i, hm, ho, hf, hg, hfr, hdep with
              | 0, _, ho, hf, hg, hfr, hdep =>
                simp only [gTA, gCZ, gSI] at ho
                subst ho
                refine ⟨fun _ => ?_, fun hw => absurd (show true = false from hw) (by decide)⟩
                simp [go_sem]
                exact ⟨Below.refl _ _, rfl⟩
              | 1, _, ho, hf, hg, hfr, hdep =>
                simp only [gTA, gCZ, gCS, gSI] at ho
                subst ho
                refine ⟨fun _ => ?_, fun hw => absurd (show true = false from hw) (by decide)⟩
                have ts : ρ (.tmp 6) = .pointer (some ⟨b6, 0, none⟩) := hfr 6 (by kernel_rfl)
                simp [go_sem, ts]
                exact ⟨Below.refl _ _, rfl⟩
              | 2, _, ho, hf, hg, hfr, hdep =>
                simp only [gTA, gCZ, gCS, gSI] at ho
                subst ho
                refine ⟨fun _ => ?_, fun hw => absurd (show true = false from hw) (by decide)⟩
                have cc : w'.cell? ⟨b6, 0, none⟩ = some (.int .i64 fc) := hC.2.2.cell rfl
                have d0 : ρ (.tmp 100) = .pointer (some ⟨b6, 0, none⟩) := hdep 1 100 (by kernel_rfl) (by kernel_rfl)
                simp [go_sem, d0, cc]
                exact ⟨Below.refl _ _, rfl⟩
              | 3, _, ho, hf, hg, hfr, hdep =>
                simp only [gTA, gCZ, gCS, gSI] at ho
                subst ho
                refine ⟨fun _ => ?_, fun hw => absurd (show true = false from hw) (by decide)⟩
                have d0 : ρ (.tmp 101) = .int .i64 fc := hdep 2 101 (by kernel_rfl) (by kernel_rfl)
                simp [go_sem, d0]
                exact ⟨Below.refl _ _, rfl⟩
              | 4, hm, _, _, _, _, _ => exact absurd hm (by decide)
              | 5, hm, _, _, _, _, _ => exact absurd hm (by decide)
              | n + 6, _, ho, _, _, _, _ => simp at ho
            · intro d i o ρ w' hm ho h0 hf hg hC hcs hfs hfr hdep
              match i, hm, ho, h0, hf, hg, hfr, hdep with
              | 0, hm, _, _, _, _, _, _ => exact absurd hm (by decide)
              | 1, hm, _, _, _, _, _, _ => exact absurd hm (by decide)
              | 2, hm, _, _, _, _, _, _ => exact absurd hm (by decide)
              | 3, hm, _, _, _, _, _, _ => exact absurd hm (by decide)
              | 4, _, ho, h0, hf, hg, hfr, hdep =>
                simp only [gTA, gCZ, gCS, gSI] at ho
                subst ho
                refine ⟨rfl, ?_⟩
                have t0 : ρ (.tmp 99) = .agg #[.string ⟨#[]⟩, .slice none 0 0, .slice none 0 0, .slice none 0 0, .slice none 0 0] := hdep 0 99 (by kernel_rfl) (by kernel_rfl)
                have tp : ρ (.tmp 2) = .pointer (some ⟨w.heap.size + 1, 0, none⟩) := hfr 2 (by kernel_rfl)
                refine mark_storeW 26 (.tmp 2) (.tmp 99) rfl (w.heap.size + 1) 26 _ _ tp t0 (hC.2.1 (hf 5 (by decide) (by kernel_rfl))).g sizG rfl rfl ?_
                intro w8 hB8 hU8
                refine ⟨⟨fun e => absurd ((hf 5 (by decide) (by kernel_rfl)).symm.trans (by simpa [doneAt] using e)) (by decide), fun _ => (hC.2.1 (hf 5 (by decide) (by kernel_rfl))).setG hB8 hU8, hC.2.2.keep (hU8.block _ hC.2.2.lt N61.out)⟩, fun h => absurd rfl h, ?_⟩
                intro j t _ hs
                match j, hs with
                | 0, hs => exact hs
                | 1, hs => exact hs
                | 2, hs => exact hs
                | 3, hs => exact hs
                | 4, hs => exact hs
                | 5, hs => exact hs
                | _ + 6, _ => trivial
              | 5, _, ho, h0, hf, hg, hfr, hdep =>
                simp only [gTA, gCZ, gCS, gSI] at ho
                subst ho
                refine ⟨rfl, ?_⟩
                have t0 : ρ (.tmp 102) = .agg #[.int .i64 fc, .int .i64 0] := hdep 3 102 (by kernel_rfl) (by kernel_rfl)
                have tp : ρ (.tmp 3) = .pointer (some ⟨w.heap.size + 2, 0, none⟩) := hfr 3 (by kernel_rfl)
                refine mark_storeW 33 (.tmp 3) (.tmp 102) rfl (w.heap.size + 2) 33 _ _ tp t0 (hC.2.1 h0).f sizU rfl rfl ?_
                intro w8 hB8 hU8
                refine ⟨⟨fun _ => (hC.2.1 h0).setF hB8 hU8, fun e => absurd e (by simp [doneAt]), hC.2.2.keep (hU8.block _ hC.2.2.lt N62.out)⟩, fun h => absurd rfl h, ?_⟩
                intro j t _ hs
                match j, hs with
                | 0, hs => exact hs
                | 1, hs => exact hs
                | 2, hs => exact hs
                | 3, hs => exact hs
                | 4, hs => exact hs
                | 5, hs => exact hs
                | _ + 6, _ => trivial
              | n + 6, _, ho, _, _, _, _, _ => simp at ho
            · intro V w9 hC9 hS
              simp only [puts, put_none]
              simp only [Act.put, List.setIfInBounds_toArray, List.set_cons_zero, List.set_cons_succ]
              clear hS 
              have BZ := hiddenG (hC9.1 rfl)
              clear hC9
              go_wp2
              have r0 : w9.cell? ⟨w.heap.size + 1, 0, none⟩ = some (.string ⟨#[]⟩) := BZ.out.g.cell rfl
              have r1 : w9.cell? ⟨w.heap.size + 1, 1, none⟩ = some (.slice none 0 0) := BZ.out.g.cell rfl
              have r2 : w9.cell? ⟨w.heap.size + 1, 2, none⟩ = some (.slice none 0 0) := BZ.out.g.cell rfl
              have r3 : w9.cell? ⟨w.heap.size + 1, 3, none⟩ = some (.slice none 0 0) := BZ.out.g.cell rfl
              have r4 : w9.cell? ⟨w.heap.size + 1, 4, none⟩ = some (.slice none 0 0) := BZ.out.g.cell rfl
              have u0 : w9.cell? ⟨w.heap.size + 2, 0, none⟩ = some (.int .i64 fc) := BZ.out.f.cell rfl
              have u1 : w9.cell? ⟨w.heap.size + 2, 1, none⟩ = some (.int .i64 0) := BZ.out.f.cell rfl
              refine bodyPost_ret (v := .tuple #[.agg #[.string ⟨#[]⟩, .slice none 0 0, .slice none 0 0, .slice none 0 0, .slice none 0 0], .agg #[.int .i64 fc, .int .i64 0]]) (by simp [results, Tryz.results26, go_sem, r0, r1, r2, r3, r4, u0, u1]) rfl ?_
              exact BH.out _ _ ⟨rfl, BZ.out.bel⟩
end Go.Proofs.YtolpelfdhcccnaaGreatDoor
