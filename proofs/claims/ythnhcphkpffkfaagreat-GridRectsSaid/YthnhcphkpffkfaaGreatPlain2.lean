/-
  More of the plain mathematics of rectangles: what joins two, what is left of one, lists of them.
-/
import Derived.Test.YthnhcphkpffkfaaGreatPlain
namespace Go.Proofs.YthnhcphkpffkfaaGreat

def joinR (ax ay aw ah bx by' bw bh : Int) : Rc :=
  if emptyB ax ay aw ah = true then (if emptyB bx by' bw bh = true then zr else ⟨bx, by', bw, bh⟩)
  else if emptyB bx by' bw bh = true then ⟨ax, ay, aw, ah⟩
  else btw (min ax bx) (min ay by') (max (ax + aw) (bx + bw)) (max (ay + ah) (by' + bh))
def eqB (r : Rc) (x y w h : Int) : Bool := (r.x == x) && ((r.y == y) && ((r.w == w) && (r.h == h)))
def inB (ax ay aw ah bx by' bw bh : Int) : Bool := emptyB ax ay aw ah || eqB (meetR ax ay aw ah bx by' bw bh) ax ay aw ah
def overB (ax ay aw ah bx by' bw bh : Int) : Bool := !eqB (meetR ax ay aw ah bx by' bw bh) 0 0 0 0

end Go.Proofs.YthnhcphkpffkfaaGreat
