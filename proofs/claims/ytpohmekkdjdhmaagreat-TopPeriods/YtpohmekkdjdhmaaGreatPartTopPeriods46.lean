/- Texts of one chain. -/
import Derived.Test.YtpohmekkdjdhmaaGreatPartTopPeriods22
import Derived.Test.YtpohmekkdjdhmaaGreatPartTopPeriods38
import Derived.Deep.SlicePairs
import Derived.SizedLaws
namespace Go.Proofs.YtpohmekkdjdhmaaGreat
open Go.ChangeShapes Go.WideShapes Go.ChangeAt Go.RowKit
structure zMY (w : World) (a : Option Addr) (len cap : Nat) (L : List BK) : Prop where
 len:L.length=len
 lies:AZ w a L
 none:a=Option.none->L.length=0/\cap=0
 room:L.length*24<=140737488351232
 cap:L.length<=cap
 ins:∀b ∈ L,InK b
theorem zMY.below {w w':World} {a:Option Addr} {len cap:Nat} {L:List BK} (h:zMY w a len cap L) (hb:Below w.heap.size w w'):zMY w' a len cap L:=⟨h.len,h.lies.below hb,h.none,h.room,h.cap,h.ins⟩
section
variable {H:Type} {enc:TypeId × Value->H} {W:World} {base:Nat} {held:Bool}
end
end Go.Proofs.YtpohmekkdjdhmaaGreat
