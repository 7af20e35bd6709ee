/-
  Contracts of the document's answer for layer 16: line.
-/
import Derived.Test.YtooolcldiecfjaaDoorK10
namespace Go.Proofs.YtooolcldiecfjaaDoor
open Go.RowKit

def txFil : ByteArray := ⟨#[60, 102, 105, 108, 108]⟩
def txFrm : ByteArray := ⟨#[60, 102, 114, 97, 109, 101]⟩
def txWri : ByteArray := ⟨#[60, 119, 114, 105, 116, 101]⟩
def txCli : ByteArray := ⟨#[60, 99, 108, 105, 112]⟩
/-- A stroke's line, as the document lays it together. -/
def lnS (s : St) : ByteArray :=
  if s.k = 1 then ⟨#[60, 102, 105, 108, 108]⟩ ++ rcS s.r ++ fldS ⟨#[99]⟩ (txt s.c) ++ fldS ⟨#[110]⟩ (nmS s.n) ++ ⟨#[47, 62, 10]⟩
  else if s.k = 2 then ⟨#[60, 102, 114, 97, 109, 101]⟩ ++ rcS s.r ++ fldS ⟨#[99]⟩ (txt s.c) ++ fldS ⟨#[110]⟩ (nmS s.n) ++ ⟨#[47, 62, 10]⟩
  else if s.k = 3 then ⟨#[60, 119, 114, 105, 116, 101]⟩ ++ rcS s.r ++ fldS ⟨#[99]⟩ (txt s.c) ++ fldS ⟨#[98]⟩ (txt s.b) ++ fldS ⟨#[110]⟩ (nmS s.n) ++ ⟨#[62]⟩ ++ ⟨(escL s.t.data.toList).toArray⟩ ++ ⟨#[60, 47, 119, 114, 105, 116, 101, 62, 10]⟩
  else if s.k = 4 then ⟨#[60, 99, 108, 105, 112]⟩ ++ rcS s.r ++ fldS ⟨#[110]⟩ (nmS s.n) ++ ⟨#[62, 10]⟩
  else ⟨#[60, 47, 99, 108, 105, 112]⟩ ++ fldS ⟨#[110]⟩ (nmS s.n) ++ ⟨#[62, 10]⟩

theorem pce_lit (s : St) (b : UInt8) (h : b.toNat < 65 ∨ 90 < b.toNat) : pceF s b.toNat = [b] := by
  have := pce_else (s := s) (b := b.toNat) (by omega) (by omega) (by omega) (by omega) (by omega) (by omega) (by omega) (by omega)
  rw [this]
  simp
theorem lin_lit (s : St) : ∀ l : List UInt8, (∀ b ∈ l, b.toNat < 65 ∨ 90 < b.toNat) → linF l s = l
  | [], _ => rfl
  | b :: l, h => by
    rw [linF_cons, pce_lit s b (h b (by simp)), lin_lit s l fun c hc => h c (by simp [hc])]
    rfl
theorem lin_one (s : St) (b : UInt8) (l : List UInt8) (h : pceF s b.toNat = l) : linF [b] s = l := by
  rw [linF_cons, h]
  simp [linF]
theorem p_x (s : St) : linF [88] s = Lib.itoa s.r.x := lin_one s 88 _ rfl
theorem p_y (s : St) : linF [89] s = Lib.itoa s.r.y := lin_one s 89 _ rfl
theorem p_w (s : St) : linF [87] s = Lib.itoa s.r.w := lin_one s 87 _ rfl
theorem p_h (s : St) : linF [72] s = Lib.itoa s.r.h := lin_one s 72 _ rfl
theorem p_c (s : St) : linF [67] s = (txt s.c).data.toList := lin_one s 67 _ rfl
theorem p_b (s : St) : linF [66] s = (txt s.b).data.toList := lin_one s 66 _ rfl
theorem p_n (s : St) : linF [78] s = Lib.itoa s.n := lin_one s 78 _ rfl
theorem p_t (s : St) : linF [84] s = escL s.t.data.toList := lin_one s 84 _ rfl

theorem fil_parts (s : St) : linF filF s = [60, 102, 105, 108, 108] ++ [32, 120, 61, 34] ++ Lib.itoa s.r.x ++ [34, 32, 121, 61, 34] ++ Lib.itoa s.r.y ++ [34, 32, 119, 61, 34] ++ Lib.itoa s.r.w ++ [34, 32, 104, 61, 34] ++ Lib.itoa s.r.h ++ [34, 32, 99, 61, 34] ++ (txt s.c).data.toList ++ [34, 32, 110, 61, 34] ++ Lib.itoa s.n ++ [34, 47, 62, 10] := by
  have e : filF = [60, 102, 105, 108, 108] ++ [32, 120, 61, 34] ++ [88] ++ [34, 32, 121, 61, 34] ++ [89] ++ [34, 32, 119, 61, 34] ++ [87] ++ [34, 32, 104, 61, 34] ++ [72] ++ [34, 32, 99, 61, 34] ++ [67] ++ [34, 32, 110, 61, 34] ++ [78] ++ [34, 47, 62, 10] := by decide
  rw [e]
  simp only [linF_app, p_x, p_y, p_w, p_h, p_c, p_n]
  rw [lin_lit s [60, 102, 105, 108, 108] (by decide), lin_lit s [32, 120, 61, 34] (by decide), lin_lit s [34, 32, 121, 61, 34] (by decide), lin_lit s [34, 32, 119, 61, 34] (by decide), lin_lit s [34, 32, 104, 61, 34] (by decide), lin_lit s [34, 32, 99, 61, 34] (by decide), lin_lit s [34, 32, 110, 61, 34] (by decide), lin_lit s [34, 47, 62, 10] (by decide)]
theorem frm_parts (s : St) : linF vfrF s = [60, 102, 114, 97, 109, 101] ++ [32, 120, 61, 34] ++ Lib.itoa s.r.x ++ [34, 32, 121, 61, 34] ++ Lib.itoa s.r.y ++ [34, 32, 119, 61, 34] ++ Lib.itoa s.r.w ++ [34, 32, 104, 61, 34] ++ Lib.itoa s.r.h ++ [34, 32, 99, 61, 34] ++ (txt s.c).data.toList ++ [34, 32, 110, 61, 34] ++ Lib.itoa s.n ++ [34, 47, 62, 10] := by
  have e : vfrF = [60, 102, 114, 97, 109, 101] ++ [32, 120, 61, 34] ++ [88] ++ [34, 32, 121, 61, 34] ++ [89] ++ [34, 32, 119, 61, 34] ++ [87] ++ [34, 32, 104, 61, 34] ++ [72] ++ [34, 32, 99, 61, 34] ++ [67] ++ [34, 32, 110, 61, 34] ++ [78] ++ [34, 47, 62, 10] := by decide
  rw [e]
  simp only [linF_app, p_x, p_y, p_w, p_h, p_c, p_n]
  rw [lin_lit s [60, 102, 114, 97, 109, 101] (by decide), lin_lit s [32, 120, 61, 34] (by decide), lin_lit s [34, 32, 121, 61, 34] (by decide), lin_lit s [34, 32, 119, 61, 34] (by decide), lin_lit s [34, 32, 104, 61, 34] (by decide), lin_lit s [34, 32, 99, 61, 34] (by decide), lin_lit s [34, 32, 110, 61, 34] (by decide), lin_lit s [34, 47, 62, 10] (by decide)]
theorem wri_parts (s : St) : linF wriF s = [60, 119, 114, 105, 116, 101] ++ [32, 120, 61, 34] ++ Lib.itoa s.r.x ++ [34, 32, 121, 61, 34] ++ Lib.itoa s.r.y ++ [34, 32, 119, 61, 34] ++ Lib.itoa s.r.w ++ [34, 32, 104, 61, 34] ++ Lib.itoa s.r.h ++ [34, 32, 99, 61, 34] ++ (txt s.c).data.toList ++ [34, 32, 98, 61, 34] ++ (txt s.b).data.toList ++ [34, 32, 110, 61, 34] ++ Lib.itoa s.n ++ [34, 62] ++ escL s.t.data.toList ++ [60, 47, 119, 114, 105, 116, 101, 62, 10] := by
  have e : wriF = [60, 119, 114, 105, 116, 101] ++ [32, 120, 61, 34] ++ [88] ++ [34, 32, 121, 61, 34] ++ [89] ++ [34, 32, 119, 61, 34] ++ [87] ++ [34, 32, 104, 61, 34] ++ [72] ++ [34, 32, 99, 61, 34] ++ [67] ++ [34, 32, 98, 61, 34] ++ [66] ++ [34, 32, 110, 61, 34] ++ [78] ++ [34, 62] ++ [84] ++ [60, 47, 119, 114, 105, 116, 101, 62, 10] := by decide
  rw [e]
  simp only [linF_app, p_x, p_y, p_w, p_h, p_c, p_b, p_n, p_t]
  rw [lin_lit s [60, 119, 114, 105, 116, 101] (by decide), lin_lit s [32, 120, 61, 34] (by decide), lin_lit s [34, 32, 121, 61, 34] (by decide), lin_lit s [34, 32, 119, 61, 34] (by decide), lin_lit s [34, 32, 104, 61, 34] (by decide), lin_lit s [34, 32, 99, 61, 34] (by decide), lin_lit s [34, 32, 98, 61, 34] (by decide), lin_lit s [34, 32, 110, 61, 34] (by decide), lin_lit s [34, 62] (by decide), lin_lit s [60, 47, 119, 114, 105, 116, 101, 62, 10] (by decide)]
theorem cli_parts (s : St) : linF cliF s = [60, 99, 108, 105, 112] ++ [32, 120, 61, 34] ++ Lib.itoa s.r.x ++ [34, 32, 121, 61, 34] ++ Lib.itoa s.r.y ++ [34, 32, 119, 61, 34] ++ Lib.itoa s.r.w ++ [34, 32, 104, 61, 34] ++ Lib.itoa s.r.h ++ [34, 32, 110, 61, 34] ++ Lib.itoa s.n ++ [34, 62, 10] := by
  have e : cliF = [60, 99, 108, 105, 112] ++ [32, 120, 61, 34] ++ [88] ++ [34, 32, 121, 61, 34] ++ [89] ++ [34, 32, 119, 61, 34] ++ [87] ++ [34, 32, 104, 61, 34] ++ [72] ++ [34, 32, 110, 61, 34] ++ [78] ++ [34, 62, 10] := by decide
  rw [e]
  simp only [linF_app, p_x, p_y, p_w, p_h, p_n]
  rw [lin_lit s [60, 99, 108, 105, 112] (by decide), lin_lit s [32, 120, 61, 34] (by decide), lin_lit s [34, 32, 121, 61, 34] (by decide), lin_lit s [34, 32, 119, 61, 34] (by decide), lin_lit s [34, 32, 104, 61, 34] (by decide), lin_lit s [34, 32, 110, 61, 34] (by decide), lin_lit s [34, 62, 10] (by decide)]
theorem ope_parts (s : St) : linF opeF s = [60, 47, 99, 108, 105, 112] ++ [32, 110, 61, 34] ++ Lib.itoa s.n ++ [34, 62, 10] := by
  have e : opeF = [60, 47, 99, 108, 105, 112] ++ [32, 110, 61, 34] ++ [78] ++ [34, 62, 10] := by decide
  rw [e]
  simp only [linF_app, p_n]
  rw [lin_lit s [60, 47, 99, 108, 105, 112] (by decide), lin_lit s [32, 110, 61, 34] (by decide), lin_lit s [34, 62, 10] (by decide)]
theorem hed_parts (s : St) : linF hedF s = [60, 115, 104, 97, 112, 101, 115] ++ [32, 119, 61, 34] ++ Lib.itoa s.r.w ++ [34, 32, 104, 61, 34] ++ Lib.itoa s.r.h ++ [34, 62, 10] := by
  have e : hedF = [60, 115, 104, 97, 112, 101, 115] ++ [32, 119, 61, 34] ++ [87] ++ [34, 32, 104, 61, 34] ++ [72] ++ [34, 62, 10] := by decide
  rw [e]
  simp only [linF_app, p_w, p_h]
  rw [lin_lit s [60, 115, 104, 97, 112, 101, 115] (by decide), lin_lit s [32, 119, 61, 34] (by decide), lin_lit s [34, 32, 104, 61, 34] (by decide), lin_lit s [34, 62, 10] (by decide)]

theorem fldS_list (a b : ByteArray) : (fldS a b).data.toList = [32] ++ a.data.toList ++ [61, 34] ++ b.data.toList ++ [34] := by
  unfold fldS
  simp
theorem nmS_list (n : Int) : (nmS n).data.toList = Lib.itoa n := rfl
theorem rcS_list (r : Rc) : (rcS r).data.toList = [32, 120, 61, 34] ++ Lib.itoa r.x ++ [34, 32, 121, 61, 34] ++ Lib.itoa r.y ++ [34, 32, 119, 61, 34] ++ Lib.itoa r.w ++ [34, 32, 104, 61, 34] ++ Lib.itoa r.h ++ [34] := by
  unfold rcS
  simp only [ByteArray.data_append, Array.toList_append, fldS_list, nmS_list]
  simp
theorem lnS_list (s : St) : (lnS s).data.toList = strF s := by
  unfold lnS strF forF
  split
  · rw [fil_parts]; simp only [ByteArray.data_append, Array.toList_append, fldS_list, nmS_list, rcS_list]; simp
  · split
    · rw [frm_parts]; simp only [ByteArray.data_append, Array.toList_append, fldS_list, nmS_list, rcS_list]; simp
    · split
      · rw [wri_parts]; simp only [ByteArray.data_append, Array.toList_append, fldS_list, nmS_list, rcS_list]; simp
      · split
        · rw [cli_parts]; simp only [ByteArray.data_append, Array.toList_append, fldS_list, nmS_list, rcS_list]; simp
        · rw [ope_parts]; simp only [ByteArray.data_append, Array.toList_append, fldS_list, nmS_list]; simp

end Go.Proofs.YtooolcldiecfjaaDoor
