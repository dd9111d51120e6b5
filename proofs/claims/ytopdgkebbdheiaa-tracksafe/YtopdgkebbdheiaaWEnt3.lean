/-
  An entry read by the program's reader.
-/
import Derived.Test.YtopdgkebbdheiaaWEnt2
namespace Go.Proofs.Ytopdgkebbdheiaa
open Go.RowKit

def rdEntEnd (x : En) (l : List UInt8) : Except Int (En × List UInt8) := if x.ok then .ok (x, l) else .error 6
def rdEnt (l : List UInt8) : Except Int (En × List UInt8) :=
  rdThen (rdNum l) fun ix l => rdThen (rdNum l) fun tm l => rdThen (rdNum l) fun kd l => rdThen (rdText 256 l) fun dt l => rdEntEnd ⟨ix, tm, kd, dt⟩ l
def EnV : En → World → Value → Prop := fun x _ v => v = .agg #[.int .i64 x.ix, .int .i64 x.tm, .int .i64 x.kd, .string (bs x.dt)]

end Go.Proofs.Ytopdgkebbdheiaa
