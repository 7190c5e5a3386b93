/- Texts of one chain, laid one behind the other. -/
import Derived.Test.YtmnbapcbailcbaaGreatPartTopPeriods50
namespace Go.Proofs.YtmnbapcbailcbaaGreat
open Go.ChangeShapes Go.WideShapes Go.ChangeAt Go.RowKit
theorem topPeriods_walk (g : GG) (a1 a2 a3 a4 : Option Addr) (c1 c2 c3 c4 : Nat) (ap : Option Addr) (lp cp : Nat) (P : List Int) (aq : Option Addr) (lq cq : Nat) (Q : List Int) (w : World) (h : ArgG w a1 a2 a3 a4 c3 c4 g) (hp : Arg w ap lp cp P) (hq : Arg w aq lq cq Q) : Calls Tryz.prog 3 #[.agg #[.string (str g.name), .slice a1 g.actors.length c1, .slice a2 g.edges.length c2, .slice a3 g.ins.length c3, .slice a4 g.outs.length c4], .slice ap lp cp, .slice aq lq cq] w fun e w' => e = .returned (.bool true) ∧ Below w.heap.size w w' := by
  by_cases hc : (firstF g).code = 0
  · obtain ⟨n, hn⟩ : ∃ n, netG g = n := ⟨_, rfl⟩
    have hk : checkN n = 0 := by rw [← hn]; exact net_sound ((sound_iff g).1 hc)
    have hN : n.nodes = (g.actors.length : Int) := by rw [← hn]; rfl
    cases hb : bigA n with
    | true => exact topBig g a1 a2 a3 a4 c1 c2 c3 c4 ap lp cp aq lq cq w h hc n _ hn hN hk hb
    | false =>
      cases hf : fuB n.arcs (cnt n) with
      | some i => exact topOdd g a1 a2 a3 a4 c1 c2 c3 c4 ap lp cp aq lq cq w h hc n _ hn hN hk hb i hf
      | none => exact topEven g a1 a2 a3 a4 c1 c2 c3 c4 ap lp cp P aq lq cq Q w h hp hq hc n _ hn hN hk _ rfl hb hf
  · exact topErr g a1 a2 a3 a4 c1 c2 c3 c4 ap lp cp aq lq cq w h hc
end Go.Proofs.YtmnbapcbailcbaaGreat
