/- Texts of one chain, laid one behind the other. -/
import Derived.Test.YtolpelfdhcccnaaGreatDoorPartSourceParses26
import Derived.Test.YtolpelfdhcccnaaGreatDoorPartSourceParses43
namespace Go.Proofs.YtolpelfdhcccnaaGreatDoor
open Go.ChangeShapes Go.WideShapes Go.ChangeAt Go.RowKit
def cvP : Plc_k → Plc
  | ⟨n, p, q⟩ => ⟨n, p, q⟩
def cvI : Itm_k → Itm
  | ⟨k, n, t, ns, f, g, p⟩ => ⟨k, n, t, ns, cvP f, cvP g, p⟩
def cvL (L : List (Itm_k × Value)) : List (Itm × Value) := L.map fun p => (cvI p.1, p.2)
theorem cv_itP (p : Itm_k × Value) : itP (cvI p.1, p.2) = itP_k p := by
  obtain ⟨⟨k, n, t, ns, ⟨f1, f2, f3⟩, ⟨g1, g2, g3⟩, q⟩, v⟩ := p
  rfl
theorem cv_nums (x : Itm_k) : (cvI x).nums = x.nums := by
  obtain ⟨k, n, t, ns, f, g, q⟩ := x
  rfl
theorem cv_fst (L : List (Itm_k × Value)) : (cvL L).map Prod.fst = (L.map Prod.fst).map cvI := by
  unfold cvL
  rw [List.map_map, List.map_map]
  rfl
theorem cv_its {base : Nat} {w : World} {v : Value} {L : List (Itm_k × Value)} (h : Its_k base w v L) : Its base w v (cvL L) := by
  refine ⟨?_, fun p hp => ?_, fun p hp => ?_, ?_⟩
  · have e : (cvL L).flatMap itP = L.flatMap itP_k := by
      unfold cvL
      rw [List.flatMap_map]
      exact congrArg (fun f => L.flatMap f) (funext cv_itP)
    rw [e]
    have el : (cvL L).length = L.length := by simp [cvL]
    rw [el]
    exact h.row
  · obtain ⟨q, hq, rfl⟩ := List.mem_map.1 hp
    show Ints base w q.2 (cvI q.1).nums
    rw [cv_nums]
    exact h.nums q hq
  · obtain ⟨q, hq, rfl⟩ := List.mem_map.1 hp
    exact h.off q hq
  · unfold cvL
    rw [List.pairwise_map]
    exact h.pair
theorem cv_names {x : Itm_k} (h : rightX x = true) : (cvI x).name.length ≤ 140737488355328 ∧ (cvI x).frm.name.length ≤ 140737488355328 ∧ (cvI x).tgt.name.length ≤ 140737488355328 := by
  obtain ⟨k, n, t, ns, ⟨f1, f2, f3⟩, ⟨g1, g2, g3⟩, q⟩ := x
  have nm : ∀ {l : List UInt8}, nameB l = true → l.length ≤ 140737488355328 := fun {l} hl => Nat.le_trans (name_len hl) (by decide)
  have nz : ∀ {l : List UInt8}, decide (l = []) = true → l.length ≤ 140737488355328 := fun {l} hl => by rw [of_decide_eq_true hl]; exact Nat.zero_le _
  show n.length ≤ _ ∧ f1.length ≤ _ ∧ g1.length ≤ _
  unfold rightX at h
  simp only [absB] at h
  split at h
  · simp only [Bool.and_eq_true] at h
    exact ⟨nm h.1, nz h.2.2.1.1, nz h.2.2.2.1⟩
  split at h
  · simp only [Bool.and_eq_true] at h
    exact ⟨nz h.1, nm h.2.2.1, nm h.2.2.2⟩
  split at h
  · simp only [Bool.and_eq_true] at h
    exact ⟨nm h.1, nz h.2.2.1.1, nm h.2.2.2⟩
  split at h
  · simp only [Bool.and_eq_true] at h
    exact ⟨nm h.1, nm h.2.2.1, nz h.2.2.2.1⟩
  · cases h
theorem fits_in {x : Itm_k} (h : Fits x) (hl : x.nums.length ≤ 2000001) : NumsOk x.nums := by
  refine ⟨fun k => ?_, by omega⟩
  by_cases hk : k < x.nums.length
  · rw [nth, List.getD_eq_getElem?_getD, List.getElem?_eq_getElem hk]
    exact (h.nums _ (List.getElem_mem hk)).1
  · rw [nth, List.getD_eq_getElem?_getD, List.getElem?_eq_none (by omega)]
    exact (by decide : (-9223372036854775808 : Int) ≤ 0 ∧ (0 : Int) ≤ 9223372036854775807)
/-- The items that are read of a text, as Build takes them. -/
theorem text_ito {l : List UInt8} {s : Skt_k} {j : Nat} (h : (textG l).err = 0) (hs : sketchR (textG l).toks = (some s, j)) {base : Nat} {w : World} {a : Option Addr} {c : Nat} {L : List (Itm_k × Value)} (hL : s.items = L.map Prod.fst) (hI : Its_k base w (.slice a s.items.length c) L) : ItR w a (cvL L) ∧ ItO w (cvL L) ∧ (cvL L).length = s.items.length ∧ s.items.length ≤ 2000000 := by
  have el : (cvL L).length = s.items.length := by rw [hL]; simp [cvL]
  have hi := cv_its hI
  obtain ⟨-, hr, -⟩ := text_right h hs
  have hf := text_fits hs
  have hw := sketchR_few (text_in64 l) (text_len5 l) hs
  refine ⟨Its.at5 (c := c) (by rw [el]; exact hi), ⟨fun p hp => ?_, fun p hp => ?_⟩, el, text_items h hs⟩
  · obtain ⟨q, hq, rfl⟩ := List.mem_map.1 hp
    have hq' : q.1 ∈ s.items := by rw [hL]; exact List.mem_map_of_mem hq
    have ok := fits_in (hf _ hq') (hw _ hq')
    show ∃ x c, q.2 = .slice x (cvI q.1).nums.length c ∧ Arg w x (cvI q.1).nums.length c (cvI q.1).nums
    rw [cv_nums]
    exact ints_argG (hI.nums q hq) ok
  · obtain ⟨q, hq, rfl⟩ := List.mem_map.1 hp
    have hq' : q.1 ∈ s.items := by rw [hL]; exact List.mem_map_of_mem hq
    exact cv_names (hr _ hq').1
end Go.Proofs.YtolpelfdhcccnaaGreatDoor
