/- Texts of one chain, laid one behind the other. -/
import Derived.Test.YtcpklpbhdbddiaaGreatDoorPartSketchParses26
import Derived.Test.YtcpklpbhdbddiaaGreatDoorPartSketchParses17
import Derived.Test.YtcpklpbhdbddiaaGreatDoorPartSketchParses11
import Derived.Deep.Cut
namespace Go.Proofs.YtcpklpbhdbddiaaGreatDoor
open Go.ChangeShapes Go.WideShapes Go.ChangeAt Go.RowKit
/-! ### A table of the numbers' rows -/
def adO : Value → Option Addr
  | .slice a _ _ => a
  | _ => none
def cpO : Value → Nat
  | .slice _ _ c => c
  | _ => 0
set_option maxRecDepth 100000 in
set_option maxHeartbeats 1000000 in
theorem apart_none (n : Nat) (hn : n = 0) (w : World) : Calls Tryz.prog 20 #[.slice none n 0] w fun e w' => e = .returned (.bool true) ∧ Below w.heap.size w w' := by
  have hmk := run_make_row' (P := Tryz.prog) 60 51 (.slice none 0 0) 24 Tryz.underlying60 Tryz.info51 rfl .i64 .i64 n (by omega) (by omega)
  have HB : Hid (Below w.heap.size w (w.alloc (.cells (madeCells #[.slice none 0 0] n) 51))) := (Below.refl _ _).alloc (Nat.le_refl _) _
  have hz : ¬ ((0 : Int) < (n : Int)) := by omega
  clear hn
  go_enter Tryz.func20, Tryz.ntmps20
  go_wp2
  generalize w.alloc (.cells (madeCells #[.slice none 0 0] n) 51) = w0 at *
  go_loopg [4] 0 (fun gk v wr => gk = 0 ∧ v = .int .i64 0 ∧ wr = w0)
  case atStart => exact ⟨rfl, rfl, rfl⟩
  case round =>
    obtain ⟨rfl, rfl, rfl⟩ := hrel
    go_wp2
    go_loopg [6] 0 (fun gk v w5 => gk = 0 ∧ v = .int .i64 0 ∧ w5 = wr)
    case atStart => exact ⟨rfl, rfl, rfl⟩
    case round =>
      obtain ⟨rfl, rfl, rfl⟩ := hrel
      go_wp2
      go_loopg [8] 0 (fun gk v w6 => gk = 0 ∧ v = .int .i64 0 ∧ w6 = wr)
      case atStart => exact ⟨rfl, rfl, rfl⟩
      case round =>
        obtain ⟨rfl, rfl, rfl⟩ := hrel
        go_wp2
        go_ret
        exact ⟨rfl, HB.out⟩
theorem apart_nil (w : World) : Calls Tryz.prog 20 #[.slice none 0 0] w fun e w' => e = .returned (.bool true) ∧ Below w.heap.size w w' := apart_none 0 rfl w
/-- All numbers' rows of a list lie apart, each a row of the caller's own. -/
structure Rws (B : Nat) (w : World) (L : List El) : Prop where
  nums : ∀ p ∈ L, Ints B w p.2 p.1.nums
  pair : L.Pairwise (fun p q => ∀ k, p.2.ownBlock = some k → q.2.ownBlock ≠ some k)
  short : ∀ p ∈ L, p.1.nums.length ≤ 17592186043904
theorem Ints.slice {B w r ns} (h : Ints B w r ns) : r = .slice (adO r) ns.length (cpO r) := by
  obtain ⟨a, c, rfl⟩ := h.shape
  rfl
theorem Ints.cap {B w r ns} (h : Ints B w r ns) : CapR B w (adO r) (cpO r) ns := by
  obtain ⟨a, c, rfl⟩ := h.shape
  exact h
theorem Ints.own {B w r ns} (h : Ints B w r ns) {x : Addr} (hx : adO r = some x) : r.ownBlock = some x.block := by
  rcases h.2 with ⟨rfl, -⟩ | ⟨g, cap, cur, rfl, -⟩
  · cases hx
  · cases hx; rfl
theorem nthI_get {L : List El} {k : Nat} (h : k < L.length) : nthI L k = L[k] := by
  unfold nthI
  rw [List.getD_eq_getElem?_getD, List.getElem?_eq_getElem h]
  rfl
theorem table_of {B : Nat} {w : World} {L : List El} {G : Nat} (h : Rws B w L) (ht : ∀ j, j < L.length → w.cell? ⟨G, j, none⟩ = some (nthI L j).2) (hG : ∀ p ∈ L, p.2.ownBlock ≠ some G) (hlt : G < w.heap.size) (hlow : B ≤ w.heap.size) (hn : L.length ≤ 1000000000) :
    Table B w G L.length (fun j => adO (nthI L j).2) (fun j => (nthI L j).1.nums.length) (fun j => cpO (nthI L j).2) (fun j => (nthI L j).1.nums) := by
  refine ⟨fun j hj => ⟨(h.nums _ (nthI_mem hj)).cap, rfl⟩, fun j hj => by rw [ht j hj]; exact congrArg some (h.nums _ (nthI_mem hj)).slice, fun j k x y hj hk hne hx hy => ?_, fun j x hj hx => ?_, hlt, hlow, hn, fun j hj => ?_⟩
  · have e1 := (h.nums _ (nthI_mem hj)).own hx
    have e2 := (h.nums _ (nthI_mem hk)).own hy
    intro e
    rw [nthI_get hj] at e1
    rw [nthI_get hk] at e2
    rcases Nat.lt_or_gt_of_ne hne with h1 | h1
    · exact (List.pairwise_iff_getElem.1 h.pair j k hj hk h1) _ e1 (by rw [e2, e])
    · exact (List.pairwise_iff_getElem.1 h.pair k j hk hj h1) _ e2 (by rw [e1, e])
  · intro e
    exact hG _ (nthI_mem hj) (by rw [(h.nums _ (nthI_mem hj)).own hx, e])
  · have := h.short _ (nthI_mem hj); show (nthI L j).1.nums.length * 8 ≤ _; omega
theorem val_new (wr : World) (s : Value) (t : TypeId) : ∀ j u, [s][j]? = some u → (wr.alloc (.cells #[s] t)).cell? ((⟨wr.heap.size, 0, none⟩ : Addr).add j) = some u := by
  intro j u hu
  match j, hu with
  | 0, hu => simp at hu; subst hu; simp [Addr.add]
/-! ### The rows of items, with the boxes that the sketches lie in -/
structure ApX (B : Nat) (w wr : World) (a b : Option Addr) (As Bs : List El) (c d : Value) (ys zs : List El) (X : Nat) (x y sa sb : Value) : Prop where
  ap : ApI B w wr a b As Bs c d ys zs
  b1 : Blk 24 X wr #[x, sa]
  b2 : Blk 24 (X + 1) wr #[y, sb]
  nc : ∀ g, c.ownBlock = some g → g ≠ X ∧ g ≠ X + 1
  nd : ∀ g, d.ownBlock = some g → g ≠ X ∧ g ≠ X + 1
theorem ApX.swap {B w wr a b As Bs c d ys zs X x y sa sb} (h : ApX B w wr a b As Bs c d ys zs X x y sa sb) : ApX B w wr b a Bs As d c zs ys X x y sa sb := ⟨h.ap.swap, h.b1, h.b2, h.nd, h.nc⟩
theorem ApX.alloc {B w wr a b As Bs c d ys zs X x y sa sb} (h : ApX B w wr a b As Bs c d ys zs X x y sa sb) (o : Obj) : ApX B w (wr.alloc o) a b As Bs c d ys zs X x y sa sb :=
  ⟨h.ap.alloc o, h.b1.below ((Below.refl _ _).alloc (Nat.le_refl _) _), h.b2.below ((Below.refl _ _).alloc (Nat.le_refl _) _), h.nc, h.nd⟩
theorem ApX.grow {B w wr a b As Bs c d ys zs X x y sa sb} (h : ApX B w wr a b As Bs c d ys zs X x y sa sb) {w2 : World} {c' : Value} {t : El} (hown : w2.ownsRow B 55 11 c' (ys.length + 1) (ys.flatMap itP ++ itP t))
    (ht : (∃ g cap, c = .slice (some ⟨g, 0, none⟩) ys.length cap ∧ c' = .slice (some ⟨g, 0, none⟩) (ys.length + 1) cap ∧ wr.grownBy w2 (some g)) ∨ (∃ cap, c' = .slice (some ⟨wr.heap.size, 0, none⟩) (ys.length + 1) cap ∧ wr.grownBy w2 none)) :
    ApX B w w2 a b As Bs c' d (ys ++ [t]) zs X x y sa sb := by
  refine ⟨h.ap.grow hown ht, ?_, ?_, ?_, h.nd⟩
  · rcases ht with ⟨g, cap, rfl, rfl, hg⟩ | ⟨cap, rfl, hg⟩
    · exact h.b1.grown hg (fun e => (h.nc g rfl).1 (Option.some.inj e).symm)
    · exact h.b1.grown hg (fun e => by cases e)
  · rcases ht with ⟨g, cap, rfl, rfl, hg⟩ | ⟨cap, rfl, hg⟩
    · exact h.b2.grown hg (fun e => (h.nc g rfl).2 (Option.some.inj e).symm)
    · exact h.b2.grown hg (fun e => by cases e)
  · intro g' e
    rcases ht with ⟨g, cap, rfl, rfl, hg⟩ | ⟨cap, rfl, hg⟩
    · exact h.nc g' e
    · have e1 : wr.heap.size = g' := Option.some.inj e
      have h1 := h.b1.lt
      have h2 := h.b2.lt
      exact ⟨by omega, by omega⟩
theorem ApX.put {B w wr b As Bs d zs g n cap X x y sa sb} (h : ApX B w wr (some ⟨g, 0, none⟩) b As Bs (.slice (some ⟨g, 0, none⟩) n cap) d As zs X x y sa sb) (hn : As.length = n) {k : Nat} (hk : k < n) (t : El) :
    ApX B w (((((((((((wr.setCell ⟨g, k * 11, none⟩ (.int .u8 t.1.kind)).setCell ⟨g, k * 11 + 1, none⟩ (.string (str t.1.name))).setCell ⟨g, k * 11 + 2, none⟩ (.string (str t.1.tag))).setCell ⟨g, k * 11 + 3, none⟩ (t.2)).setCell ⟨g, k * 11 + 4, none⟩ (.string (str t.1.frm.name))).setCell ⟨g, k * 11 + 5, none⟩ (.int .i64 t.1.frm.port)).setCell ⟨g, k * 11 + 6, none⟩ (.int .i64 t.1.frm.place)).setCell ⟨g, k * 11 + 7, none⟩ (.string (str t.1.to.name))).setCell ⟨g, k * 11 + 8, none⟩ (.int .i64 t.1.to.port)).setCell ⟨g, k * 11 + 9, none⟩ (.int .i64 t.1.to.place)).setCell ⟨g, k * 11 + 10, none⟩ (.int .i64 t.1.place)) (some ⟨g, 0, none⟩) b (As.set k t) Bs (.slice (some ⟨g, 0, none⟩) n cap) d (As.set k t) zs X x y sa sb := by
  have h1 : X ≠ g := fun e => (h.nc g rfl).1 e.symm
  have h2 : X + 1 ≠ g := fun e => (h.nc g rfl).2 e.symm
  exact ⟨h.ap.put hn hk t, (((((((((((h.b1.other h1 _).other h1 _).other h1 _).other h1 _).other h1 _).other h1 _).other h1 _).other h1 _).other h1 _).other h1 _).other h1 _), (((((((((((h.b2.other h2 _).other h2 _).other h2 _).other h2 _).other h2 _).other h2 _).other h2 _).other h2 _).other h2 _).other h2 _).other h2 _), h.nc, h.nd⟩
theorem it_news (wr : World) (s : Int) (k : Nat) : ∀ j u, (itP (mkI s k))[j]? = some u → (wr.alloc (.cells #[.int .u8 s, .string ⟨#[]⟩, .string ⟨#[]⟩, .slice none 0 0, .string ⟨#[]⟩, .int .i64 0, .int .i64 0, .string ⟨#[]⟩, .int .i64 0, .int .i64 0, .int .i64 (k : Int)] 55)).cell? ((⟨wr.heap.size, 0, none⟩ : Addr).add j) = some u := by
  intro j u hu
  rw [add_zero5]
  exact (blk_new 55 wr #[.int .u8 s, .string ⟨#[]⟩, .string ⟨#[]⟩, .slice none 0 0, .string ⟨#[]⟩, .int .i64 0, .int .i64 0, .string ⟨#[]⟩, .int .i64 0, .int .i64 0, .int .i64 (k : Int)]).cell (by rw [← Array.getElem?_toList]; exact hu)
set_option maxRecDepth 100000 in
set_option maxHeartbeats 16000000 in
theorem apart_items (B : Nat) (w : World) (nx ny : List UInt8) (a b : Option Addr) (n m ca cb : Nat) (As Bs : List El) (hA : Its B w (.slice a n ca) As) (hB : Its B w (.slice b m cb) Bs) (hn : As.length = n) (hm : Bs.length = m) (hl : n ≤ 2000000) (hl2 : m ≤ 2000000)
    (hnn : ∀ p ∈ As ++ Bs, p.1.nums.length ≤ 17592186043904) (hX : ∀ k, ((Value.slice a n ca).ownBlock = some k ∨ ∃ p ∈ As, p.2.ownBlock = some k) → ((Value.slice b m cb).ownBlock ≠ some k ∧ ∀ p ∈ Bs, p.2.ownBlock ≠ some k)) (hlow : B ≤ w.heap.size) :
    Calls Tryz.prog 8 #[.agg #[.string (str nx), .slice a n ca], .agg #[.string (str ny), .slice b m cb]] w fun e w' => e = .returned (.bool true) ∧ Below B w w' := by
  have hI : (n : Int) ≤ 2000000 := by omega
  have hI2 : (m : Int) ≤ 2000000 := by omega
  have hI0 : (0 : Int) ≤ (n : Int) := by omega
  have hI20 : (0 : Int) ≤ (m : Int) := by omega
  have HA := hidden hA
  have HB := hidden hB
  have HNN := hidden hnn
  have HX := hidden hX
  have HLW := hidden hlow
  have hb0 : Below w.heap.size w ((w.alloc (.cells #[.string (str nx), .slice a n ca] 24)).alloc (.cells #[.string (str ny), .slice b m cb] 24)) := ((Below.refl _ _).alloc (Nat.le_refl _) _).alloc (by simp) _
  have HB0 := hidden hb0
  have X1 : Hid (Blk 24 w.heap.size ((w.alloc (.cells #[.string (str nx), .slice a n ca] 24)).alloc (.cells #[.string (str ny), .slice b m cb] 24)) #[.string (str nx), .slice a n ca]) := (blk_new 24 w _).below ((Below.refl _ _).alloc (Nat.le_refl _) _)
  have X2 : Hid (Blk 24 (w.heap.size + 1) ((w.alloc (.cells #[.string (str nx), .slice a n ca] 24)).alloc (.cells #[.string (str ny), .slice b m cb] 24)) #[.string (str ny), .slice b m cb]) := by
    have h1 := blk_new 24 (w.alloc (.cells #[.string (str nx), .slice a n ca] 24)) #[.string (str ny), .slice b m cb]
    have h2 : (w.alloc (.cells #[.string (str nx), .slice a n ca] 24)).heap.size = w.heap.size + 1 := by simp
    rw [h2] at h1
    exact h1
  have HSZ : Hid (((w.alloc (.cells #[.string (str nx), .slice a n ca] 24)).alloc (.cells #[.string (str ny), .slice b m cb] 24)).heap.size = w.heap.size + 2) := by show _ = _; simp
  have A1 := hidden (hA.below hb0)
  have B1 := hidden (hB.below hb0)
  obtain ⟨i0, hi, hz0, hz1, hz2⟩ := info_parts Tryz.info51
  have HI := hidden hi
  have HI0 := hidden hz0
  have HI1 := hidden hz1
  have HI2 := hidden hz2
  clear hi hz0 hz1 hz2 hA hB hnn hX hb0
  go_enter Tryz.func8, Tryz.ntmps8
  go_upto_region 2 with fail
  generalize (w.alloc (.cells #[.string (str nx), .slice a n ca] 24)).alloc (.cells #[.string (str ny), .slice b m cb] 24) = W0 at *
  have HNil : Hid (W0.ownsRow W0.heap.size 51 1 (.slice none 0 0) 0 (((As ++ Bs).map Prod.snd).take 0)) := World.ownsRow_nil _ _ _ _
  go_wp2
  go_loopg [5, 6] n (fun gk r v wr => ∃ (k : Nat), k ≤ n ∧ gk = n - k ∧ v = .int .i64 (k : Int) ∧ wr.ownsRow W0.heap.size 51 1 r (k) (((As ++ Bs).map Prod.snd).take (k)) ∧ Below W0.heap.size W0 wr)
  case atStart => exact ⟨0, Nat.zero_le _, rfl, rfl, HNil.out, Below.refl _ _⟩
  case round =>
    obtain ⟨k, hk, rfl, rfl, hrow, hbw⟩ := hrel
    have HROW := hidden hrow
    have HBW := hidden hbw
    have k1 := (X1.out.below hbw).cell (k := 1) rfl
    clear hrow hbw
    by_cases hlt : k < n
    · have hki : (k : Int) < (n : Int) := by omega
      obtain ⟨g, cap, he, hc⟩ := (show Rw11 B wr (.slice a n ca) As from owns_below (A1.out.row) HBW.out).cells11 (by intro e; rw [e] at hn; simp at hn; omega)
      have he2 : a = some ⟨g, 0, none⟩ := by injection he
      subst he2
      clear he
      have e3 := (hc k (by omega)).c3
      have HIN := hidden (A1.out.nums _ (nthI_mem (show k < As.length by omega)))
      have hnx : ((As ++ Bs).map Prod.snd).take (k + 1) = ((As ++ Bs).map Prod.snd).take (k) ++ [(nthI As k).2] := by
        rw [List.take_add_one, List.getElem?_map, List.getElem?_append_left (by omega), List.getElem?_eq_getElem (show k < As.length by omega), nthI_get (show k < As.length by omega)]
        rfl
      have HNX := hidden hnx
      obtain ⟨ra, rc, hra⟩ := HIN.out.shape
      have HRA := hidden hra
      rw [hra] at e3
      have ONE : ∀ u ∈ [(Value.slice ra (nthI As k).1.nums.length rc)], u.oneCell' = true := fun u hu => by simp only [List.mem_cons, List.not_mem_nil, or_false] at hu; subst hu; rfl
      clear hnx hc hra
      generalize (nthI As k).1.nums.length = rl at *
      go_wp2_with (at_builtin; refine wpList_append_own _ rfl (.tmp 24) (.tmp 31) 60 rfl W0.heap.size 51 i0 (.slice none 0 0) 1 24 Tryz.underlying60 HI.out HI0.out HI1.out HI2.out rfl (by decide) _ (k) _ rfl (owns_below HROW.out ((Below.refl _ _).alloc (Nat.le_refl _) _)) ⟨wr.heap.size, 0, none⟩ 1 1 [.slice ra rl rc] rfl rfl (val_new wr _ _) ONE (by unfold maxLen; omega) (by omega) (by have := HBW.out.size; simp; omega) ?_; intro r8 w8 hown hgrow _; have O8 := hidden hown; have B8 : Hid (Below W0.heap.size W0 w8) := below_grownO (HBW.out.trans (((Below.refl _ _).alloc (Nat.le_refl _) _).mono HBW.out.size)) hgrow (own_row HROW.out) (by have := HBW.out.size; simp; omega); clear hown hgrow)
      go_roundg (n - (k + 1))
      case measure => omega
      case rel => exact ⟨k + 1, by omega, rfl, by go_num, by have h1 := O8.out; have h2 := HNX.out; rw [HRA.out] at h2; rw [h2]; exact h1, B8.out⟩
    · have ek : k = n := by omega
      subst ek
      have hki : ¬ ((k : Int) < (k : Int)) := by omega
      generalize k = n at *
      clear hlt hk
      go_wp2
      clear hki
      have HT : Hid (wr.ownsRow W0.heap.size 51 1 u5 (n + 0) (((As ++ Bs).map Prod.snd).take (n + 0))) := HROW.out
      have HTB := hidden HBW.out
      clear HROW HBW k1 HNil
      go_loopg [5, 7] m (fun gk r v wr => ∃ (k : Nat), k ≤ m ∧ gk = m - k ∧ v = .int .i64 (k : Int) ∧ wr.ownsRow W0.heap.size 51 1 r (n + k) (((As ++ Bs).map Prod.snd).take (n + k)) ∧ Below W0.heap.size W0 wr)
      case atStart => exact ⟨0, Nat.zero_le _, rfl, rfl, HT.out, HTB.out⟩
      case round =>
        obtain ⟨k, hk, rfl, rfl, hrow, hbw⟩ := hrel
        have HROW := hidden hrow
        have HBW := hidden hbw
        have k1 := (X2.out.below hbw).cell (k := 1) rfl
        clear hrow hbw
        by_cases hlt : k < m
        · have hki : (k : Int) < (m : Int) := by omega
          obtain ⟨g, cap, he, hc⟩ := (show Rw11 B wr (.slice b m cb) Bs from owns_below (B1.out.row) HBW.out).cells11 (by intro e; rw [e] at hm; simp at hm; omega)
          have he2 : b = some ⟨g, 0, none⟩ := by injection he
          subst he2
          clear he
          have e3 := (hc k (by omega)).c3
          have HIN := hidden (B1.out.nums _ (nthI_mem (show k < Bs.length by omega)))
          have hnx : ((As ++ Bs).map Prod.snd).take (n + k + 1) = ((As ++ Bs).map Prod.snd).take (n + k) ++ [(nthI Bs k).2] := by
            rw [List.take_add_one, List.getElem?_map, List.getElem?_append_right (by omega), show n + k - As.length = k by omega, List.getElem?_eq_getElem (show k < Bs.length by omega), nthI_get (show k < Bs.length by omega)]
            rfl
          have HNX := hidden hnx
          obtain ⟨ra, rc, hra⟩ := HIN.out.shape
          have HRA := hidden hra
          rw [hra] at e3
          have ONE : ∀ u ∈ [(Value.slice ra (nthI Bs k).1.nums.length rc)], u.oneCell' = true := fun u hu => by simp only [List.mem_cons, List.not_mem_nil, or_false] at hu; subst hu; rfl
          clear hnx hc hra
          generalize (nthI Bs k).1.nums.length = rl at *
          go_wp2_with (at_builtin; refine wpList_append_own _ rfl (.tmp 40) (.tmp 47) 60 rfl W0.heap.size 51 i0 (.slice none 0 0) 1 24 Tryz.underlying60 HI.out HI0.out HI1.out HI2.out rfl (by decide) _ (n + k) _ rfl (owns_below HROW.out ((Below.refl _ _).alloc (Nat.le_refl _) _)) ⟨wr.heap.size, 0, none⟩ 1 1 [.slice ra rl rc] rfl rfl (val_new wr _ _) ONE (by unfold maxLen; omega) (by omega) (by have := HBW.out.size; simp; omega) ?_; intro r8 w8 hown hgrow _; have O8 := hidden hown; have B8 : Hid (Below W0.heap.size W0 w8) := below_grownO (HBW.out.trans (((Below.refl _ _).alloc (Nat.le_refl _) _).mono HBW.out.size)) hgrow (own_row HROW.out) (by have := HBW.out.size; simp; omega); clear hown hgrow)
          go_roundg (m - (k + 1))
          case measure => omega
          case rel => exact ⟨k + 1, by omega, rfl, by go_num, by have h1 := O8.out; have h2 := HNX.out; rw [HRA.out] at h2; rw [show n + (k + 1) = n + k + 1 by omega, h2]; exact h1, B8.out⟩
        · have ek : k = m := by omega
          subst ek
          have hki : ¬ ((k : Int) < (k : Int)) := by omega
          generalize k = m at *
          clear hlt hk
          have HALL : Hid (wr.ownsRow W0.heap.size 51 1 u5 (n + m) ((As ++ Bs).map Prod.snd)) := by
            have h1 := HROW.out
            have e : ((As ++ Bs).map Prod.snd).take (n + m) = (As ++ Bs).map Prod.snd := List.take_of_length_le (by simp; omega)
            rw [e] at h1
            exact h1
          have HBWR := hidden HBW.out
          clear HT HTB HROW HBW
          have RW : Hid (Rws B W0 (As ++ Bs)) := by
            refine ⟨fun p hp => ?_, ?_, HNN.out⟩
            · rcases List.mem_append.1 hp with hp | hp
              · exact A1.out.nums p hp
              · exact B1.out.nums p hp
            · rw [List.pairwise_append]
              exact ⟨A1.out.pair, B1.out.pair, fun p hp q hq k e => (HX.out k (Or.inr ⟨p, hp, e⟩)).2 q hq⟩
          have HAPT : Hid (Calls Tryz.prog 20 #[u5] wr fun e w' => e = .returned (.bool true) ∧ Below B wr w' ∧ ∀ k, k < W0.heap.size → (∀ p ∈ As ++ Bs, p.2.ownBlock ≠ some k) → w'.heap[k]? = wr.heap[k]?) := by
            have hs := HBWR.out.size
            have hz := HSZ.out
            have hw := HLW.out
            have RW2 : Rws B wr (As ++ Bs) := ⟨fun p hp => (RW.out.nums p hp).below HBWR.out, RW.out.pair, RW.out.short⟩
            rcases HALL.out.2 with ⟨e1, e0⟩ | ⟨G, cap, cur, e1, hG, hh, -⟩
            · rw [e1]
              exact (apart_nil wr).mono fun _ _ ⟨h1, h2⟩ => ⟨h1, h2.mono (by omega), fun k hk _ => h2.block k (by omega)⟩
            · have hGl : G < wr.heap.size := (Array.getElem?_eq_some_iff.1 hh).1
              have hlen : (As ++ Bs).length = n + m := by simp; omega
              have hT := table_of (G := G) RW2 (fun j hj => by
                have h1 := World.ownsRow.cells HALL.out (g := G) (by rw [e1]; rfl) j (((As ++ Bs).map Prod.snd)[j]'(by simpa using hj)) (List.getElem?_eq_getElem (by simpa using hj))
                rw [add_zero5] at h1
                rw [h1, nthI_get hj, List.getElem_map]) (fun p hp e => by
                have := own_lt (RW.out.nums p hp) G e
                omega) hGl (by omega) (by rw [hlen]; omega)
              rw [hlen] at hT
              rw [e1]
              refine (apart_keeps B G (n + m) cap _ _ _ _ wr hT).mono fun _ w' ⟨h1, h2, h3⟩ => ⟨h1, h2, fun k hk hne => h3 k (by omega) fun j x hj hx e => ?_⟩
              have hj' : j < (As ++ Bs).length := by rw [hlen]; exact hj
              exact hne _ (nthI_mem hj') (by rw [(RW.out.nums _ (nthI_mem hj')).own hx, e])
          go_wp2_with (go_at_call 20; (with_reducible refine HAPT.out.mono ?_); rintro e w5 ⟨rfl, hb5, hk5⟩; have HB5 := hidden hb5; have HK5 := hidden hk5; clear hb5 hk5)
          have HBB : Hid (Below B w w5) := by
            have hs := HBWR.out.size
            have h1 := HB0.out.mono HLW.out
            have hz := HSZ.out
            have hw := HLW.out
            exact (h1.trans (HBWR.out.mono (by omega))).trans HB5.out
          have HST : Hid (ApX B w5 w5 a b As Bs (.slice a n ca) (.slice b m cb) As Bs w.heap.size (.string (str nx)) (.string (str ny)) (.slice a n ca) (.slice b m cb)) := by
            have hs := HBWR.out.size
            have hz := HSZ.out
            have hw := HLW.out
            have lt0 : ∀ {k : Nat}, k < W0.heap.size → (∀ p ∈ As ++ Bs, p.2.ownBlock ≠ some k) → w5.heap[k]? = W0.heap[k]? := fun hk hne => (HK5.out _ hk hne).trans (HBWR.out.block _ hk)
            have oldA : ∀ p ∈ As, ∀ k, p.2.ownBlock = some k → k < w.heap.size := fun p hp k e => own_lt (HA.out.nums p hp) k e
            have oldB : ∀ p ∈ Bs, ∀ k, p.2.ownBlock = some k → k < w.heap.size := fun p hp k e => own_lt (HB.out.nums p hp) k e
            have notX : ∀ k, w.heap.size ≤ k → ∀ p ∈ As ++ Bs, p.2.ownBlock ≠ some k := fun k hk p hp e => by
              rcases List.mem_append.1 hp with hp | hp
              · have := oldA p hp k e; omega
              · have := oldB p hp k e; omega
            have rowK : ∀ {v : Value} {L : List El}, Rw11 B W0 v L → (∀ k, v.ownBlock = some k → ∀ p ∈ As ++ Bs, p.2.ownBlock ≠ some k) → Rw11 B w5 v L := fun {v L} h hne => by
              refine ⟨h.1, ?_⟩
              rcases h.2 with h2 | ⟨g, cap, cur, hv, hg, hh, r⟩
              · exact .inl h2
              · refine .inr ⟨g, cap, cur, hv, hg, ?_, r⟩
                rw [lt0 (Array.getElem?_eq_some_iff.1 hh).1 (hne g (by rw [hv]; rfl))]
                exact hh
            have r1 : Rw11 B w5 (.slice a n ca) As := rowK (show Rw11 B W0 _ _ by have := A1.out.row; exact this) (fun k e p hp => by
              rcases List.mem_append.1 hp with hp | hp
              · exact fun e2 => A1.out.off p hp k e2 e
              · exact (HX.out k (Or.inl e)).2 p hp)
            have r2 : Rw11 B w5 (.slice b m cb) Bs := rowK (show Rw11 B W0 _ _ by have := B1.out.row; exact this) (fun k e p hp => by
              rcases List.mem_append.1 hp with hp | hp
              · exact fun e2 => (HX.out k (Or.inr ⟨p, hp, e2⟩)).1 e
              · exact fun e2 => B1.out.off p hp k e2 e)
            have hs5 := HB5.out.size
            refine ⟨apI_two r1 r2 (fun g e => (HX.out g (Or.inl e)).1) (by omega), ?_, ?_, fun g e => ?_, fun g e => ?_⟩
            · exact (lt0 X1.out.lt (notX _ (Nat.le_refl _))).trans X1.out
            · exact (lt0 X2.out.lt (notX _ (Nat.le_succ _))).trans X2.out
            · have := own_lt HA.out.row g e; exact ⟨by omega, by omega⟩
            · have := own_lt HB.out.row g e; exact ⟨by omega, by omega⟩
          clear HALL HBWR RW HAPT HB5 HK5 X1 X2 A1 B1 HA HB HNN HX HB0 HSZ HLW HI HI0 HI1 HI2
          generalize (Value.string (str nx)) = x at *
          generalize (Value.string (str ny)) = y at *
          generalize w.heap.size = X at *
          go_loopg [8] n (fun gk v wr => ∃ (k : Nat) (Xs : List El), k ≤ n ∧ gk = n - k ∧ v = .int .i64 (k : Int) ∧ Xs.length = n ∧ ApX B w5 wr a b Xs Bs (.slice a n ca) (.slice b m cb) Xs Bs X x y (.slice a n ca) (.slice b m cb) ∧ ∀ j, j < k → nthI Xs j = mkI 77 j)
          case atStart => exact ⟨0, As, Nat.zero_le _, rfl, rfl, hn, HST.out, fun j hj => by omega⟩
          case round =>
            clear HST
            obtain ⟨k, Xs, hk, rfl, rfl, hXn, hap, hmk⟩ := hrel
            have HMK := hidden hmk
            have HAP := hidden hap
            have x1 := hap.b1.cell (k := 1) rfl
            clear hmk hap
            by_cases hlt : k < n
            · have hki : (k : Int) < (n : Int) := by omega
              obtain ⟨g, rfl, hc4⟩ := HAP.out.ap.at (by intro e; rw [e] at hXn; simp at hXn; omega)
              obtain ⟨c0, c1, c2, c3, c4, c5, c6, c7, c8, c9, c10⟩ := hc4 k (by omega)
              have f0 := HAP.out.ap.frozen (k * 11); have f1 := HAP.out.ap.frozen (k * 11 + 1); have f2 := HAP.out.ap.frozen (k * 11 + 2); have f3 := HAP.out.ap.frozen (k * 11 + 3); have f4 := HAP.out.ap.frozen (k * 11 + 4); have f5 := HAP.out.ap.frozen (k * 11 + 5); have f6 := HAP.out.ap.frozen (k * 11 + 6); have f7 := HAP.out.ap.frozen (k * 11 + 7); have f8 := HAP.out.ap.frozen (k * 11 + 8); have f9 := HAP.out.ap.frozen (k * 11 + 9); have f10 := HAP.out.ap.frozen (k * 11 + 10)
              have HP := hidden (HAP.out.put hXn hlt (mkI 77 k))
              clear hc4 HAP
              go_wp2
              go_roundg (n - (k + 1))
              case measure => omega
              case rel => exact ⟨k + 1, Xs.set k (mkI 77 k), by omega, rfl, by go_num, by rw [List.length_set]; exact hXn, HP.out, fun j hj => by
                by_cases e : k = j
                · subst e; exact nthI_set_eq (by omega)
                · rw [nthI_set_ne e]; exact HMK.out j (by omega)⟩
            · have ek : k = n := by omega
              subst ek
              have hki : ¬ ((k : Int) < (k : Int)) := by omega
              generalize k = n at *
              clear hlt hk
              go_wp2
              clear x1
              go_loopg [9] m (fun gk v wr => ∃ (k : Nat) (Ys : List El), k ≤ m ∧ gk = m - k ∧ v = .int .i64 (k : Int) ∧ Ys.length = m ∧ ApX B w5 wr a b Xs Ys (.slice a n ca) (.slice b m cb) Xs Ys X x y (.slice a n ca) (.slice b m cb) ∧ ∀ j, j < k → nthI Ys j = mkI 78 j)
              case atStart => exact ⟨0, Bs, Nat.zero_le _, rfl, rfl, hm, HAP.out, fun j hj => by omega⟩
              case round =>
                clear HAP hki
                obtain ⟨k, Ys, hk, rfl, rfl, hYm, hap, hmk⟩ := hrel
                have HMK2 := hidden hmk
                have HAP := hidden hap
                have x2 := hap.b2.cell (k := 1) rfl
                have x1 := hap.b1.cell (k := 1) rfl
                clear hmk hap
                by_cases hlt : k < m
                · have hki : (k : Int) < (m : Int) := by omega
                  obtain ⟨g, rfl, hc4⟩ := HAP.out.swap.ap.at (by intro e; rw [e] at hYm; simp at hYm; omega)
                  obtain ⟨c0, c1, c2, c3, c4, c5, c6, c7, c8, c9, c10⟩ := hc4 k (by omega)
                  have f0 := HAP.out.swap.ap.frozen (k * 11); have f1 := HAP.out.swap.ap.frozen (k * 11 + 1); have f2 := HAP.out.swap.ap.frozen (k * 11 + 2); have f3 := HAP.out.swap.ap.frozen (k * 11 + 3); have f4 := HAP.out.swap.ap.frozen (k * 11 + 4); have f5 := HAP.out.swap.ap.frozen (k * 11 + 5); have f6 := HAP.out.swap.ap.frozen (k * 11 + 6); have f7 := HAP.out.swap.ap.frozen (k * 11 + 7); have f8 := HAP.out.swap.ap.frozen (k * 11 + 8); have f9 := HAP.out.swap.ap.frozen (k * 11 + 9); have f10 := HAP.out.swap.ap.frozen (k * 11 + 10)
                  have HP := hidden (HAP.out.swap.put hYm hlt (mkI 78 k)).swap
                  clear hc4 HAP
                  go_wp2
                  go_roundg (m - (k + 1))
                  case measure => omega
                  case rel => exact ⟨k + 1, Ys.set k (mkI 78 k), by omega, rfl, by go_num, by rw [List.length_set]; exact hYm, HP.out, fun j hj => by
                    by_cases e : k = j
                    · subst e; exact nthI_set_eq (by omega)
                    · rw [nthI_set_ne e]; exact HMK2.out j (by omega)⟩
                · have ek : k = m := by omega
                  subst ek
                  have hki : ¬ ((k : Int) < (k : Int)) := by omega
                  generalize k = m at *
                  clear hlt hk
                  go_wp2
                  clear hki x1 x2
                  obtain ⟨i0, hi, hz0, hz1, hz2⟩ := info_parts Tryz.infoIT
                  have HI := hidden hi
                  have HI0 := hidden hz0
                  have HI1 := hidden hz1
                  have HI2 := hidden hz2
                  clear hi hz0 hz1 hz2
                  have HS3 : Hid (ApX B w5 wr a b Xs Ys (.slice a n ca) (.slice b m cb) (Xs ++ tlI 79 0) Ys X x y (.slice a n ca) (.slice b m cb)) := by
                    show ApX B w5 wr a b Xs Ys (.slice a n ca) (.slice b m cb) (Xs ++ tlI 79 0) Ys X x y (.slice a n ca) (.slice b m cb)
                    have e : Xs ++ tlI 79 0 = Xs := by simp [tlI]
                    rw [e]
                    exact HAP.out
                  clear HAP
                  go_loopg [10, 12] 16 (fun gk c i wr => ∃ (k : Nat), k ≤ 16 ∧ gk = 16 - k ∧ i = .int .i64 (k : Int) ∧ ApX B w5 wr a b Xs Ys c (.slice b m cb) (Xs ++ tlI 79 k) Ys X x y (.slice a n ca) (.slice b m cb))
                  case atStart => exact ⟨0, Nat.zero_le _, rfl, rfl, HS3.out⟩
                  case round =>
                    clear HS3
                    obtain ⟨k, hk, rfl, rfl, hap⟩ := hrel
                    have HAP := hidden hap
                    clear hap
                    by_cases hlt : k < 16
                    · have hki : (k : Int) < 16 := by omega
                      have hlen : (Xs ++ tlI 79 k).length = n + k := by rw [List.length_append, tlI_len, hXn]
                      have hlow : B ≤ wr.heap.size := by have := HAP.out.ap.low; have := HAP.out.ap.bel.size; omega
                      go_wp2_with (at_builtin; refine wpList_append_told _ rfl (.tmp 86) (.tmp 89) 22 rfl B 55 i0 (.agg #[.int .u8 0, .string ⟨#[]⟩, .string ⟨#[]⟩, .slice none 0 0, .string ⟨#[]⟩, .int .i64 0, .int .i64 0, .string ⟨#[]⟩, .int .i64 0, .int .i64 0, .int .i64 0]) 11 136 Tryz.underlying22 HI.out HI0.out HI1.out HI2.out rfl (by decide) _ (Xs ++ tlI 79 k).length _ rfl (HAP.out.alloc _).ap.tc ⟨wr.heap.size, 0, none⟩ 1 1 (by decide) (itP (mkI 79 k)) rfl rfl (it_news wr 79 k) (itP_one _ _ _ _) (by unfold maxLen; omega) (by omega) (by simp; omega) ?_; intro v' w2 hown htold; have K8 : Hid (ApX B w5 w2 a b Xs Ys v' (.slice b m cb) (Xs ++ tlI 79 k ++ [mkI 79 k]) Ys X x y (.slice a n ca) (.slice b m cb)) := (HAP.out.alloc _).grow hown htold; clear hown htold)
                      go_roundg (16 - (k + 1))
                      case measure => omega
                      case rel => exact ⟨k + 1, by omega, rfl, by go_num, by rw [← tlI_succ 79 k, ← List.append_assoc]; exact K8.out⟩
                    · have ek : k = 16 := by omega
                      subst ek
                      have hki : ¬ ((16 : Int) < 16) := by omega
                      clear hki hlt hk
                      go_wp2
                      have HS3 : Hid (ApX B w5 wr a b Xs Ys u10 (.slice b m cb) (Xs ++ tlI 79 16) (Ys ++ tlI 80 0) X x y (.slice a n ca) (.slice b m cb)) := by
                        show ApX B w5 wr a b Xs Ys u10 (.slice b m cb) (Xs ++ tlI 79 16) (Ys ++ tlI 80 0) X x y (.slice a n ca) (.slice b m cb)
                        have e : Ys ++ tlI 80 0 = Ys := by simp [tlI]
                        rw [e]
                        exact HAP.out
                      clear HAP
                      go_loopg [11, 13] 16 (fun gk c i wr => ∃ (k : Nat), k ≤ 16 ∧ gk = 16 - k ∧ i = .int .i64 (k : Int) ∧ ApX B w5 wr a b Xs Ys u10 c (Xs ++ tlI 79 16) (Ys ++ tlI 80 k) X x y (.slice a n ca) (.slice b m cb))
                      case atStart => exact ⟨0, Nat.zero_le _, rfl, rfl, HS3.out⟩
                      case round =>
                        clear HS3
                        obtain ⟨k, hk, rfl, rfl, hap⟩ := hrel
                        have HAP := hidden hap
                        clear hap
                        by_cases hlt : k < 16
                        · have hki : (k : Int) < 16 := by omega
                          have hlen : (Ys ++ tlI 80 k).length = m + k := by rw [List.length_append, tlI_len, hYm]
                          have hlow : B ≤ wr.heap.size := by have := HAP.out.ap.low; have := HAP.out.ap.bel.size; omega
                          go_wp2_with (at_builtin; refine wpList_append_told _ rfl (.tmp 95) (.tmp 98) 22 rfl B 55 i0 (.agg #[.int .u8 0, .string ⟨#[]⟩, .string ⟨#[]⟩, .slice none 0 0, .string ⟨#[]⟩, .int .i64 0, .int .i64 0, .string ⟨#[]⟩, .int .i64 0, .int .i64 0, .int .i64 0]) 11 136 Tryz.underlying22 HI.out HI0.out HI1.out HI2.out rfl (by decide) _ (Ys ++ tlI 80 k).length _ rfl (HAP.out.alloc _).ap.td ⟨wr.heap.size, 0, none⟩ 1 1 (by decide) (itP (mkI 80 k)) rfl rfl (it_news wr 80 k) (itP_one _ _ _ _) (by unfold maxLen; omega) (by omega) (by simp; omega) ?_; intro v' w2 hown htold; have K8 : Hid (ApX B w5 w2 a b Xs Ys u10 v' (Xs ++ tlI 79 16) (Ys ++ tlI 80 k ++ [mkI 80 k]) X x y (.slice a n ca) (.slice b m cb)) := ((HAP.out.alloc _).swap.grow hown htold).swap; clear hown htold)
                          go_roundg (16 - (k + 1))
                          case measure => omega
                          case rel => exact ⟨k + 1, by omega, rfl, by go_num, by rw [← tlI_succ 80 k, ← List.append_assoc]; exact K8.out⟩
                        · have ek : k = 16 := by omega
                          subst ek
                          have hki : ¬ ((16 : Int) < 16) := by omega
                          clear hki hlt hk
                          have x1 := HAP.out.b1.cell (k := 1) rfl
                          have x2 := HAP.out.b2.cell (k := 1) rfl
                          go_wp2
                          go_loopg [14] n (fun gk v w6 => ∃ (k : Nat), k ≤ n ∧ gk = n - k ∧ v = .int .i64 (k : Int) ∧ w6 = wr)
                          case atStart => exact ⟨0, Nat.zero_le _, rfl, rfl, rfl⟩
                          case round =>
                            obtain ⟨k, hk, rfl, rfl, rfl⟩ := hrel
                            by_cases hlt : k < n
                            · have hki : (k : Int) < (n : Int) := by omega
                              obtain ⟨g, rfl, hc4⟩ := HAP.out.ap.at (by intro e; rw [e] at hXn; simp at hXn; omega)
                              have hc := hc4 k (by omega)
                              rw [HMK.out k hlt] at hc
                              have c0 : wr.cell? ⟨g, k * 11, none⟩ = some (.int .u8 77) := hc.c0
                              have c10 : wr.cell? ⟨g, k * 11 + 10, none⟩ = some (.int .i64 (k : Int)) := hc.c10
                              have q1 : ((k : Int) != (k : Int)) = false := by simp
                              have q2 : ((k : Int) == (k : Int)) = true := by simp
                              clear hc4 hc
                              go_wp2
                              go_roundg (n - (k + 1))
                              case measure => omega
                              case rel => exact ⟨k + 1, by omega, rfl, by go_num, rfl⟩
                            · have ek : k = n := by omega
                              subst ek
                              have hki : ¬ ((k : Int) < (k : Int)) := by omega
                              generalize k = n at *
                              clear hlt hk
                              go_wp2
                              clear hki
                              go_loopg [15] m (fun gk v w6 => ∃ (k : Nat), k ≤ m ∧ gk = m - k ∧ v = .int .i64 (k : Int) ∧ w6 = wr)
                              case atStart => exact ⟨0, Nat.zero_le _, rfl, rfl, rfl⟩
                              case round =>
                                obtain ⟨k, hk, rfl, rfl, rfl⟩ := hrel
                                by_cases hlt : k < m
                                · have hki : (k : Int) < (m : Int) := by omega
                                  obtain ⟨g, rfl, hc4⟩ := HAP.out.swap.ap.at (by intro e; rw [e] at hYm; simp at hYm; omega)
                                  have hc := hc4 k (by omega)
                                  rw [HMK2.out k hlt] at hc
                                  have c0 : wr.cell? ⟨g, k * 11, none⟩ = some (.int .u8 78) := hc.c0
                                  have c10 : wr.cell? ⟨g, k * 11 + 10, none⟩ = some (.int .i64 (k : Int)) := hc.c10
                                  have q1 : ((k : Int) != (k : Int)) = false := by simp
                                  have q2 : ((k : Int) == (k : Int)) = true := by simp
                                  clear hc4 hc
                                  go_wp2
                                  go_roundg (m - (k + 1))
                                  case measure => omega
                                  case rel => exact ⟨k + 1, by omega, rfl, by go_num, rfl⟩
                                · have ek : k = m := by omega
                                  subst ek
                                  have hki : ¬ ((k : Int) < (k : Int)) := by omega
                                  generalize k = m at *
                                  have hlc : (Xs ++ tlI 79 16).length = n + 16 := by rw [List.length_append, tlI_len, hXn]
                                  have hld : (Ys ++ tlI 80 16).length = m + 16 := by rw [List.length_append, tlI_len, hYm]
                                  obtain ⟨gc, kc, hu7, hcc⟩ := HAP.out.ap.tc.cells11 (by intro e; rw [e] at hlc; simp at hlc)
                                  obtain ⟨gd, kd, hu8, hdd⟩ := HAP.out.ap.td.cells11 (by intro e; rw [e] at hld; simp at hld)
                                  rw [hlc] at hu7
                                  rw [hld] at hu8
                                  have HC : Hid (∀ k, k < 16 → Cell11 wr gc ((n + k) * 11) (mkI 79 k)) := fun k hk => by
                                    have := hcc (n + k) (by omega)
                                    rwa [nthI_tail hXn hk] at this
                                  have HD : Hid (∀ k, k < 16 → Cell11 wr gd ((m + k) * 11) (mkI 80 k)) := fun k hk => by
                                    have := hdd (m + k) (by omega)
                                    rwa [nthI_tail hYm hk] at this
                                  have HBEL := hidden HAP.out.ap.bel
                                  clear hcc hdd HAP hlc hld hlt hk
                                  subst hu7
                                  subst hu8
                                  go_wp2
                                  clear hki
                                  go_loopg [16] 16 (fun gk v w6 => ∃ (k : Nat), k ≤ 16 ∧ gk = 16 - k ∧ v = .int .i64 (k : Int) ∧ w6 = wr)
                                  case atStart => exact ⟨0, Nat.zero_le _, rfl, rfl, rfl⟩
                                  case round =>
                                    obtain ⟨k, hk, rfl, rfl, rfl⟩ := hrel
                                    by_cases hlt : k < 16
                                    · have hki : (k : Int) < 16 := by omega
                                      have hc := HC.out k hlt
                                      have hd := HD.out k hlt
                                      obtain ⟨p, hp⟩ : ∃ p, n + k = p := ⟨_, rfl⟩
                                      obtain ⟨r, hr⟩ : ∃ r, m + k = r := ⟨_, rfl⟩
                                      rw [hp] at hc
                                      rw [hr] at hd
                                      have xi : (n : Int) + (k : Int) = (p : Int) := by omega
                                      have yi : (m : Int) + (k : Int) = (r : Int) := by omega
                                      have y0 : (0 : Int) ≤ (p : Int) := by omega
                                      have y1 : (p : Int) < (n : Int) + 16 := by omega
                                      have y2 : (0 : Int) ≤ (r : Int) := by omega
                                      have y3 : (r : Int) < (m : Int) + 16 := by omega
                                      have c0 : wr.cell? ⟨gc, p * 11, none⟩ = some (.int .u8 79) := hc.c0
                                      have c10 : wr.cell? ⟨gc, p * 11 + 10, none⟩ = some (.int .i64 (k : Int)) := hc.c10
                                      have d0 : wr.cell? ⟨gd, r * 11, none⟩ = some (.int .u8 80) := hd.c0
                                      have d10 : wr.cell? ⟨gd, r * 11 + 10, none⟩ = some (.int .i64 (k : Int)) := hd.c10
                                      have q1 : ((k : Int) != (k : Int)) = false := by simp
                                      have q2 : ((k : Int) == (k : Int)) = true := by simp
                                      clear hc hd hp hr
                                      go_wp2
                                      go_roundg (16 - (k + 1))
                                      case measure => omega
                                      case rel => exact ⟨k + 1, by omega, rfl, by go_num, rfl⟩
                                    · have ek : k = 16 := by omega
                                      subst ek
                                      have hki : ¬ ((16 : Int) < 16) := by omega
                                      go_wp2
                                      go_ret
                                      exact ⟨rfl, HBB.out.trans HBEL.out⟩
end Go.Proofs.YtcpklpbhdbddiaaGreatDoor
