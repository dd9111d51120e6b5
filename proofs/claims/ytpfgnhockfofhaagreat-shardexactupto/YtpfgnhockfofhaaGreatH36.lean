/-
  Joined: WSs9.
-/
import Derived.Test.YtpfgnhockfofhaaGreatH34
import Derived.Test.YtpfgnhockfofhaaGreatH35
/-
  The document's shards: what is on its way is moved, by any step.
-/
namespace Go.Proofs.YtpfgnhockfofhaaGreat
open Go.RowKit

theorem move_any (K : List (List UInt8)) (M : Nat) (Gs : Nat → Nat → Prop) (b hb ch cw : Nat) (hs : Nat → Nat) (aw : Option Addr) (S : Sd) (kd hh ot nn : Int) (ky up vl : List UInt8) (w : World) (x : SyX Gs w b hb ch hs aw cw S) (inv : Inv K M S) (hM : M ≤ 1900000) (hk : 6 ≤ kd) :
    Calls Tryz.prog 21 #[.pointer (some ⟨b, 0, none⟩), .agg #[.int .i64 kd, .int .i64 hh, .int .i64 ot, .int .i64 nn, .string (bs ky), .string (bs up), .string (bs vl)]] w fun e w' => e = .returned (.tuple #[]) ∧ SyPost Gs w b hb ch hs (carryS kd nn S) w' := by
  by_cases hz : S.wy.length = 0
  · exact move_none K M Gs b hb ch cw hs aw S kd hh ot nn ky up vl w x inv hz
  by_cases h8 : kd > 8
  · exact move_big K M Gs b hb ch cw hs aw S kd hh ot nn ky up vl w x inv hz h8
  by_cases h6 : kd = 6
  · subst h6
    exact move_come K M Gs b hb ch cw hs aw S hh ot nn ky up vl w x inv hM hz
  by_cases h7 : kd = 7
  · subst h7
    exact move_lose K M Gs b hb ch cw hs aw S hh ot nn ky up vl w x inv hM hz
  obtain rfl : kd = 8 := by omega
  exact move_double K M Gs b hb ch cw hs aw S hh ot nn ky up vl w x inv hM hz
end Go.Proofs.YtpfgnhockfofhaaGreat
