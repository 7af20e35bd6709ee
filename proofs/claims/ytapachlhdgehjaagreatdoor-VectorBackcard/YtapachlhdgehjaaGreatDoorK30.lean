/- Texts of colours in plain words: what a sixteen stands for, how many bytes belong, which colour is told. -/
import Derived.Test.YtapachlhdgehjaaGreatDoorK2
namespace Go.Proofs.YtapachlhdgehjaaGreatDoor
def dig (b:Nat):Int:=if 48≤b∧b≤57 then (b:Int) - 48 else if 97≤b∧b≤102 then (b:Int) - 87 else if 65≤b∧b≤70 then (b:Int) - 55 else -1
def six (b:Nat):Bool:=decide (0≤dig b)
def belB (b k:Nat):Bool:=if k=0 then b==35 else decide (k≤8)&&six b
def belF (s:ByteArray):Nat→Nat→Nat
 | 0,k=>k
 | n+1,k=>if h:k<s.size then (if belB (s[k]).toNat k then belF s n (k+1) else k) else k
def bel (s:ByteArray):Nat:=belF s s.size 0
theorem dig_lt (b:Nat):dig b≤15∧-1≤dig b:=by
 unfold dig;split
 ·omega
 ·split
  ·omega
  ·split <;> omega
theorem six_iff {b:Nat}:six b=true↔(48≤b∧b≤57)∨(97≤b∧b≤102)∨(65≤b∧b≤70):=by
 unfold six dig
 simp only [decide_eq_true_eq]
 split
 ·omega
 ·split
  ·omega
  ·split <;> omega
def Belongs (s:ByteArray) (k:Nat):Prop:=k≤s.size∧∀ (j:Nat) (h:j<s.size),j<k→belB (s[j]).toNat j=true
theorem belF_at (s:ByteArray):∀ (n k m:Nat),s.size≤n+k→Belongs s k→belF s n k=m→Belongs s m∧k≤m∧∀ h:m<s.size,belB (s[m]).toNat m=false
 | 0,k,m,hn,hk,e=>by
  simp only [belF] at e
  subst e
  exact ⟨hk,Nat.le_refl _,fun h=>by omega⟩
 | n+1,k,m,hn,hk,e=>by
  unfold belF at e
  by_cases h:k<s.size
  ·rw [dif_pos h] at e
   by_cases hb:belB (s[k]).toNat k=true
   ·rw [if_pos hb] at e
    obtain ⟨i1,i2,i3⟩:=belF_at s n (k+1) m (by omega) ⟨h,fun j hj hlt=>by
     by_cases e:j=k
     ·subst e;exact hb
     ·exact hk.2 j hj (by omega)⟩ e
    exact ⟨i1,by omega,i3⟩
   ·rw [if_neg hb] at e
    subst e
    exact ⟨hk,Nat.le_refl _,fun _=>by simpa using hb⟩
  ·rw [dif_neg h] at e
   subst e
   exact ⟨hk,Nat.le_refl _,fun h'=>absurd h' h⟩
theorem bel_at (s:ByteArray):Belongs s (bel s)∧∀ h:bel s<s.size,belB (s[bel s]).toNat (bel s)=false:=by
 have:=belF_at s s.size 0 _ (by omega) ⟨Nat.zero_le _,fun _ _ h=>absurd h (by omega)⟩ rfl
 exact ⟨this.1,this.2.2⟩
theorem bel_is {s:ByteArray} {k:Nat} (hk:Belongs s k) (h:∀ h:k<s.size,belB (s[k]).toNat k=false):bel s=k:=by
 obtain ⟨h1,h2⟩:=bel_at s
 rcases Nat.lt_trichotomy (bel s) k with hlt | heq | hgt
 ·have hl:bel s<s.size:=by have:=hk.1;omega
  have h3:=h2 hl
  rw [hk.2 _ hl hlt] at h3
  exact absurd h3 (by decide)
 ·exact heq
 ·have hl:k<s.size:=by have:=h1.1;omega
  have:=h1.2 k hl hgt
  rw [h hl] at this
  exact absurd this (by decide)
theorem bel_le (s:ByteArray):bel s≤s.size∧bel s≤9:=by
 obtain ⟨⟨h1,h2⟩,_⟩:=bel_at s
 refine ⟨h1,?_⟩
 by_cases h:9<bel s
 ·have:=h2 9 (by omega) h
  simp [belB] at this
 ·omega
theorem bel_six {s:ByteArray} {j:Nat} (h:j<s.size) (h0:0<j) (hj:j<bel s):six (s[j]).toNat=true:=by
 have:=(bel_at s).1.2 j h hj
 unfold belB at this
 rw [if_neg (by omega)] at this
 simp at this
 exact this.2
def dg (s:ByteArray) (j:Nat):Int:=if h:j<s.size then dig (s[j]).toNat else 0
theorem dg_at {s:ByteArray} {j:Nat} (h:j<s.size):dg s j=dig (s[j]).toNat:=by unfold dg;rw [dif_pos h]
theorem dg_bd {s:ByteArray} {j:Nat} (h0:0<j) (hj:j<bel s):0≤dg s j∧dg s j≤15:=by
 have h:j<s.size:=by have:=(bel_le s).1;omega
 have:=bel_six h h0 hj
 rw [dg_at h]
 have h2:=dig_lt (s[j]).toNat
 unfold six at this
 simp at this
 omega
def okT (s:ByteArray):Bool:=(bel s==s.size)&&(bel s==4||bel s==7||bel s==9)
def parE (s:ByteArray):Int:=if okT s then 0 else 40
def parN (s:ByteArray):Int:=if okT s then 0 else (bel s:Nat)
def parC (s:ByteArray):Co :=
 if okT s then
  if bel s=4 then ⟨17 * dg s 1,17 * dg s 2,17 * dg s 3,255⟩
  else if bel s=7 then ⟨16 * dg s 1+dg s 2,16 * dg s 3+dg s 4,16 * dg s 5+dg s 6,255⟩
  else ⟨16 * dg s 1+dg s 2,16 * dg s 3+dg s 4,16 * dg s 5+dg s 6,16 * dg s 7+dg s 8⟩
 else ⟨0,0,0,0⟩
theorem ok_iff {s:ByteArray}:okT s=true↔bel s=s.size∧(bel s=4∨bel s=7∨bel s=9):=by
 unfold okT
 simp [or_assoc]
theorem parC_ok (s:ByteArray):(parC s).ok:=by
 unfold parC
 split
 ·rename_i h
  have h':=(ok_iff.1 h).2
  split
  ·rename_i h4
   have d1:=dg_bd (s:=s) (j:=1) (by omega) (by omega)
   have d2:=dg_bd (s:=s) (j:=2) (by omega) (by omega)
   have d3:=dg_bd (s:=s) (j:=3) (by omega) (by omega)
   simp only [Co.ok,By];omega
  ·split
   ·rename_i h4 h7
    have d1:=dg_bd (s:=s) (j:=1) (by omega) (by omega)
    have d2:=dg_bd (s:=s) (j:=2) (by omega) (by omega)
    have d3:=dg_bd (s:=s) (j:=3) (by omega) (by omega)
    have d4:=dg_bd (s:=s) (j:=4) (by omega) (by omega)
    have d5:=dg_bd (s:=s) (j:=5) (by omega) (by omega)
    have d6:=dg_bd (s:=s) (j:=6) (by omega) (by omega)
    simp only [Co.ok,By];omega
   ·rename_i h4 h7
    have d1:=dg_bd (s:=s) (j:=1) (by omega) (by omega)
    have d2:=dg_bd (s:=s) (j:=2) (by omega) (by omega)
    have d3:=dg_bd (s:=s) (j:=3) (by omega) (by omega)
    have d4:=dg_bd (s:=s) (j:=4) (by omega) (by omega)
    have d5:=dg_bd (s:=s) (j:=5) (by omega) (by omega)
    have d6:=dg_bd (s:=s) (j:=6) (by omega) (by omega)
    have d7:=dg_bd (s:=s) (j:=7) (by omega) (by omega)
    have d8:=dg_bd (s:=s) (j:=8) (by omega) (by omega)
    simp only [Co.ok,By];omega
 ·simp [Co.ok,By]
def rd (t:ByteArray) (each:Nat):Nat→Nat→Int
 | 0,j=>if j=3 then 255 else 0
 | i+1,j=>if j=i / each then rd t each i j * 16 % 256+dg t i else rd t each i j
end Go.Proofs.YtapachlhdgehjaaGreatDoor
