/- Texts of one chain, laid one behind the other. -/
import Derived.Test.YtehgkgbijhobdaaPartActorsTwo11
import Derived.Test.YtehgkgbijhobdaaPartActorsTwo15
import Derived.Test.YtehgkgbijhobdaaPartActorsTwo12
import Derived.Test.YtehgkgbijhobdaaPartActorsTwo8
namespace Go.Proofs.Ytehgkgbijhobdaa
open Go.ChangeShapes Go.WideShapes Go.ChangeAt Go.RowKit
theorem of_good {t : Nat} {zs : List Int} (h : (ofS t zs).2.2 = 0) : (1 ≤ t ∧ t ≤ 11) ∧ okS t zs = true := by
  unfold ofS at h
  by_cases h1 : 1 ≤ t ∧ t ≤ 11
  · rw [if_pos h1] at h
    by_cases h2 : okS t zs = true
    · exact ⟨h1, h2⟩
    · rw [if_neg h2] at h; exact absurd h (by decide)
  · rw [if_neg h1] at h; exact absurd h (by decide)
theorem rnew7_good (t : Nat) (ht : 1 ≤ t ∧ t ≤ 11) (a : Option Addr) (zs : List Int) (len cap : Nat) (w : World) (hA : Arg w a len cap zs) (ok : okS t zs = true) : Calls Try.prog 7 #[.int .u8 (t : Int), .slice a len cap] w (RNewEnd w t zs) := by
  by_cases h1 : t = 1
  · subst h1; exact rnew7_1 a zs len cap w hA ok
  by_cases h8 : t = 8
  · subst h8; exact rnew7_8 a zs len cap w hA ok
  by_cases h10 : t = 10
  · subst h10; exact rnew7_10 a zs len cap w hA ok
  exact rnew7_o t ht a zs len cap w hA ok h1 h8 h10
def RGood (w : World) (t : Nat) (zs : List Int) (e : Ending) (w' : World) : Prop := ∃ v, e = .returned (.tuple #[v, .int .i64 0]) ∧ IsRA w.heap.size w' t zs (keepS t zs) 0 v ∧ Below w.heap.size w w'
def RBad (w : World) (f : Int) (e : Ending) (w' : World) : Prop := e = .returned (.tuple #[.agg #[.int .u8 0, .slice none 0 0, .slice none 0 0, .slice none 0 0, .slice none 0 0, .int .i64 0], .int .i64 f]) ∧ Below w.heap.size w w'
theorem rnew7_yes (t : Nat) (a : Option Addr) (zs : List Int) (len cap : Nat) (w : World) (hA : Arg w a len cap zs) (h : (ofS t zs).2.2 = 0) : Calls Try.prog 7 #[.int .u8 (t : Int), .slice a len cap] w (RGood w t zs) :=
  (rnew7_good t (of_good h).1 a zs len cap w hA (of_good h).2).mono fun e w' hr => by
    rcases hr with ⟨-, h1⟩ | ⟨h1, -⟩
    · exact h1
    · exact absurd h h1
theorem rnew7_no (t : Nat) (a : Option Addr) (zs : List Int) (len cap : Nat) (w : World) (ht : t ≤ 255) (hA : Arg w a len cap zs) {f : Int} (hf : (ofS t zs).2.2 = f) (h : f ≠ 0) : Calls Try.prog 7 #[.int .u8 (t : Int), .slice a len cap] w (RBad w f) := by
  subst hf
  exact (rnew7_bad t a zs len cap w ht hA h).mono fun e w' hr => by
    rcases hr with ⟨h1, -⟩ | ⟨-, h1⟩
    · exact absurd h1 h
    · exact h1
theorem fire_cases (t : Nat) (zs ks : List Int) (I : List (List Int)) : (∃ cd, cd ≠ 0 ∧ fireS t zs ks I = (cd, [], ks)) ∨ ∃ O ks', fireS t zs ks I = (0, O, ks') := by
  unfold fireS
  by_cases h : takesS t zs I = true
  · rw [if_pos h]
    cases hg : giveS t zs ks I with
    | none => exact .inl ⟨70, by decide, rfl⟩
    | some p => exact .inr ⟨p.1, p.2, rfl⟩
  · rw [if_neg h]; exact .inl ⟨1, by decide, rfl⟩
theorem Bod.small {F : Nat → Prop} {w : World} {B K t : Nat} {zs ks : List Int} {n : Nat} (h : Bod F w B K t zs ks n) : ks.length ≤ 16 := by
  obtain ⟨a1, a2, a3, a4, c1, c2, c3, c4, h⟩ := h.kin
  exact keep_small h.tag h.ok h.keep
theorem OutT.below {B : Nat} {w w' : World} {A : Nat → Option Addr} {C : Nat → Nat} {x : Option Addr} {O : List (List Int)} (h : OutT B w A C x O) (hb : Below w.heap.size w w') : OutT B w' A C x O := h.keep (fun k _ hk => hb.block k hk) hb.size
theorem OutT.but {B K : Nat} {w w' : World} {A : Nat → Option Addr} {C : Nat → Nat} {x : Option Addr} {O : List (List Int)} (h : OutT B w A C x O) (hb : But K w w') (hK : K < B) : OutT B w' A C x O := h.keep (fun k h1 hk => hb.block k hk (by omega)) hb.size
theorem CapR.but {B K : Nat} {w w' : World} {a : Option Addr} {c : Nat} {zs : List Int} (h : CapR B w a c zs) (hb : But K w w') (hK : K < B) : CapR B w' a c zs := h.keep fun x hx => hb.block _ (h.lt x hx).2 (by have := (h.lt x hx).1; omega)
theorem Bod.lt {F : Nat → Prop} {w : World} {B K t : Nat} {zs ks : List Int} {n : Nat} (h : Bod F w B K t zs ks n) : K < w.heap.size := h.kin.mem.2 K h.kin.mem.1
end Go.Proofs.Ytehgkgbijhobdaa
