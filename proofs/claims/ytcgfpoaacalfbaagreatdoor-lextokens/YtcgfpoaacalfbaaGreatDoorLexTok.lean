/- The document's answer of layer 3: token, whatever stands there. -/
import Derived.Test.YtcgfpoaacalfbaaGreatDoorLexTokNum
import Derived.Test.YtcgfpoaacalfbaaGreatDoorLexTokSign
namespace Go.Proofs.YtcgfpoaacalfbaaGreatDoor
open Go.RowKit
theorem token_calls (s : ByteArray) (k : Nat) (w : World) (hs : s.size ≤ 1048576) (hk : k < s.size) :
    Calls Tryz.prog 19 #[.string s, .int .i64 k] w fun e w' => e = .returned (.tuple #[tokVal (tokenOf s k).1, .int .i64 (tokenOf s k).2]) ∧ Gr w w' := by
  rcases hl : letterB (byteAt s k) with _ | _
  · rcases hd : digitB (byteAt s k) with _ | _
    · exact token_sign s k w hs hk hl hd
    · exact token_num s k w hs hk hl hd
  · exact token_name s k w hs hk hl
end Go.Proofs.YtcgfpoaacalfbaaGreatDoor
