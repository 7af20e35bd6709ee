/-
  Runes in plain words: controls, marks, how wide a rune is; a text's pieces, gone through rune by rune.
-/
import Derived.Lib.TrimU
import Derived.Lib.DecodeN
import Derived.Laws.RangeAny
namespace Go.Proofs.YtapachlhdgehjaaGreatDoor

def look : List (Int × Int) → Int → Bool
  | [], _ => false
  | (a, b) :: t, r => if r ≤ b then decide (a ≤ r) else look t r
def marksL : List (Int × Int) := [(768, 879), (1155, 1161), (1425, 1469), (1552, 1562), (1611, 1631), (8203, 8207), (8234, 8238), (8288, 8292), (8400, 8447), (65024, 65039), (65056, 65071), (917760, 917999)]
def widesL : List (Int × Int) := [(4352, 4447), (11904, 12350), (12353, 13311), (13312, 19903), (19968, 40959), (40960, 42191), (44032, 55203), (63744, 64255), (65072, 65135), (65280, 65376), (65504, 65510), (127744, 128591), (129280, 129535), (131072, 262141)]
def ctl (r : Int) : Bool := (decide (0 ≤ r) && decide (r ≤ 31)) || (decide (127 ≤ r) && decide (r ≤ 159))
def mrk (r : Int) : Bool := look marksL r
def wide (r : Int) : Bool := look widesL r
def width (r : Int) : Int := if ctl r || mrk r then 0 else if wide r then 2 else 1

theorem width_range (r : Int) : 0 ≤ width r ∧ width r ≤ 2 := by
  unfold width; split
  · omega
  · split <;> omega

abbrev rn (s : ByteArray) (p : Nat) : Nat := (Utf8.decode s p).1
abbrev sz (s : ByteArray) (p : Nat) : Nat := (Utf8.decode s p).2

end Go.Proofs.YtapachlhdgehjaaGreatDoor
