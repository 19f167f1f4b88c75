/-
  The law RobotFinds.
-/
import Derived.Test.YtmhaeipklifhcaaRbFin0
import Derived.Test.YtmhaeipklifhcaaRbFin1
import Derived.Test.YtmhaeipklifhcaaRbFin2
import Derived.Test.YtmhaeipklifhcaaRbFin3
import Derived.Test.YtmhaeipklifhcaaRbFin4
namespace Go.Proofs.Ytmhaeipklifhcaa
open Go.RowKit
theorem law_finds (r : Rbt) (ad : Option Addr) (n cap : Nat) (b : ByteArray) (w : World) (ha : RoArg w r ad n cap) (hbz : b.size ≤ maxLen) :
    Calls Try.prog 8 #[roV r ad n cap, .string b] w fun e w' => e = .returned (.bool true) ∧ Below w.heap.size w w' := by
  by_cases hb : b = emp
  · exact law_finds0 r ad n cap b w ha hbz hb
  · rcases fin_cases (r := fewR r) hb with ⟨j, hj, hf, hx, hc⟩ | ⟨hf, hx, hc⟩ | ⟨hf, hx, hc⟩ | ⟨hf, hc⟩
    · exact law_finds1 r ad n cap b w ha hbz hb j hj hf hx hc
    · exact law_finds2 r ad n cap b w ha hbz hb hf hx hc
    · exact law_finds3 r ad n cap b w ha hbz hb hf hx hc
    · exact law_finds4 r ad n cap b w ha hbz hb hf hc
end Go.Proofs.Ytmhaeipklifhcaa
