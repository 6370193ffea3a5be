/- The contract of the reference's TakeHead. -/
import Derived.Test.YtpogpjnbgdbpfaaTlvRefTB
import Derived.Test.YtpogpjnbgdbpfaaTlvRefTC1
import Derived.Test.YtpogpjnbgdbpfaaTlvRefTC2
namespace Go.Proofs.Ytpogpjnbgdbpfaa
open Go.ChangeShapes Go.WideShapes Go.ChangeAt Go.RowKit

theorem refTakeHead_any (A : Option Addr) (xs : List Int) (c : Nat) (hx : Bytes8 xs) (hl : xs.length ≤ maxLen) (hcap : xs.length ≤ c) (w : World) (hh : Holds w A xs) :
    Calls Try.prog 44 #[.slice A xs.length c] w fun e w' => e = headE (takeHeadF xs) ∧ Keeps w w' := by
  by_cases hC : xs.getD 0 0 % 32 = 31
  · by_cases hE : (takeTagF xs).2.2 = 0
    · exact refTakeHead_far A xs c hx hl hcap hC hE w hh
    · exact refTakeHead_bad A xs c hx hl hcap hC hE w hh
  · exact refTakeHead_low A xs c hx hl hcap (fun _ => hC) w hh
end Go.Proofs.Ytpogpjnbgdbpfaa
