/-
  Texts of this claim, one behind the other: what each is about stands ahead of it.
-/
import Derived.Test.YtapachlhdgehjaaGreatDoorK10
import Derived.Test.YtapachlhdgehjaaGreatDoorK30
import Derived.Test.YtapachlhdgehjaaGreatDoorK1
import Derived.Deep.AppendLies
import Derived.Deep.Onto
import Derived.Laws.IdiomStrings
import Derived.Laws.OwnMore
/-
  Contracts of package colour: sixteens, how many bytes belong.
-/
namespace Go.Proofs.YtapachlhdgehjaaGreatDoor
open Go.RowKit

set_option maxHeartbeats 400000 in
theorem isSixteen_any (b : Nat) (w : World) :
    Calls Tryz.prog 203 #[.int .u8 b] w fun e w' => e = .returned (.bool (six b)) ∧ w' = w := by
  have hs := @six_iff b
  have cs : (48 ≤ b ∧ b ≤ 57) ∨ b < 48 ∨ (57 < b ∧ b < 65) ∨ (65 ≤ b ∧ b ≤ 70) ∨ (70 < b ∧ b < 97) ∨ (97 ≤ b ∧ b ≤ 102) ∨ 102 < b := by omega
  have HS : Hid (six b = true ↔ (48 ≤ b ∧ b ≤ 57) ∨ (97 ≤ b ∧ b ≤ 102) ∨ (65 ≤ b ∧ b ≤ 70)) := hs
  clear hs
  rcases cs with ⟨c1, c2⟩ | c1 | ⟨c1, c2⟩ | ⟨c1, c2⟩ | ⟨c1, c2⟩ | ⟨c1, c2⟩ | c1
  all_goals
    go_enter Tryz.func203, Tryz.ntmps203
    go_wp2
    go_ret
    refine ⟨ret_bool ?_, rfl⟩
    rw [HS.out]
    simp
    try omega

set_option maxHeartbeats 400000 in
theorem value_any (b : Nat) (w : World) (hb : six b = true) :
    Calls Tryz.prog 193 #[.int .u8 b] w fun e w' => e = .returned (.int .u8 (dig b)) ∧ w' = w := by
  rcases six_iff.1 hb with ⟨c1, c2⟩ | ⟨c1, c2⟩ | ⟨c1, c2⟩
  · rw [show dig b = (b : Int) - 48 by unfold dig; rw [if_pos ⟨c1, c2⟩]]
    go_enter Tryz.func193, Tryz.ntmps193
    go_wp2
    go_ret
    exact ⟨rfl, rfl⟩
  · rw [show dig b = (b : Int) - 87 by unfold dig; rw [if_neg (by omega), if_pos ⟨c1, c2⟩]]
    go_enter Tryz.func193, Tryz.ntmps193
    go_wp2
    go_ret
    exact ⟨rfl, rfl⟩
  · rw [show dig b = (b : Int) - 55 by unfold dig; rw [if_neg (by omega), if_neg (by omega), if_pos ⟨c1, c2⟩]]
    go_enter Tryz.func193, Tryz.ntmps193
    go_wp2
    go_ret
    exact ⟨rfl, rfl⟩

set_option maxHeartbeats 400000 in
theorem belongs_any (b k : Nat) (w : World) :
    Calls Tryz.prog 192 #[.int .u8 b, .int .i64 k] w fun e w' => e = .returned (.bool (belB b k)) ∧ w' = w := by
  by_cases c0 : k = 0
  · subst c0
    go_enter Tryz.func192, Tryz.ntmps192
    go_wp2
    go_ret
    exact ⟨ret_bool (by simp [belB]; try omega), rfl⟩
  · by_cases c1 : k ≤ 8
    · go_enter Tryz.func192, Tryz.ntmps192
      go_wp2_with (go_at_call 203; refine (isSixteen_any _ _).mono ?_; rintro e w' ⟨rfl, rfl⟩)
      go_ret
      exact ⟨ret_bool (by simp [belB, c0, c1]), rfl⟩
    · go_enter Tryz.func192, Tryz.ntmps192
      go_wp2_with (go_at_call 203; refine (isSixteen_any _ _).mono ?_; rintro e w' ⟨rfl, rfl⟩)
      go_ret
      exact ⟨ret_bool (by simp [belB, c0, c1]), rfl⟩

set_option maxHeartbeats 1000000 in
theorem belonging_any (s : ByteArray) (w : World) (hs : s.size ≤ 9223372036854775807) :
    Calls Tryz.prog 178 #[.string s] w fun e w' => e = .returned (.int .i64 (bel s : Nat)) ∧ w' = w := by
  go_enter Tryz.func178, Tryz.ntmps178
  go_wp2
  go_loopw [6] (fun i wr => ∃ k : Nat, k ≤ s.size ∧ i = .int .i64 k ∧ Belongs s k ∧ wr = w) (fun i _ => s.size - (intOf i).toNat)
  case atStart => exact ⟨0, Nat.zero_le _, rfl, ⟨Nat.zero_le _, fun _ _ h => absurd h (by omega)⟩, rfl⟩
  case round =>
    obtain ⟨k, hk, rfl, hB, rfl⟩ := hrel
    have HB : Hid (Belongs s k) := hB
    clear hB
    by_cases hlt : k < s.size
    · cases hb : belB (s[k]).toNat k
      · have HX : Hid (bel s = k) := bel_is HB.out (fun _ => hb)
        go_wp2_with (go_at_call 192; refine (belongs_any _ _ _).mono ?_; rintro e w' ⟨rfl, rfl⟩)
        go_ret
        exact ⟨by rw [HX.out]; rfl, rfl⟩
      · go_wp2_with (go_at_call 192; refine (belongs_any _ _ _).mono ?_; rintro e w' ⟨rfl, rfl⟩)
        go_roundw
        case rel =>
          refine ⟨k + 1, by omega, by go_num, ⟨by omega, fun j hj hj' => ?_⟩, by first | rfl | trivial⟩
          by_cases e : j = k
          · subst e; exact hb
          · exact HB.out.2 j hj (by omega)
        case measure => simp [intOf]; omega
    · have HX : Hid (bel s = s.size) := bel_is (by have e : k = s.size := by omega
                                                   exact e ▸ HB.out) (fun h => absurd h (by omega))
      go_wp2
      go_ret
      exact ⟨by rw [HX.out]; rfl, rfl⟩

end Go.Proofs.YtapachlhdgehjaaGreatDoor

/- Sixteens written: package colour's high, low, isTwice. -/
namespace Go.Proofs.YtapachlhdgehjaaGreatDoor
open Go.RowKit
def sx (n:Nat):Nat:=if n<10 then 48+n else 87+n
theorem and15u:∀ x:Fin 256,bits .and .u8 (x.val:Int) 15=((x.val % 16:Nat):Int):=by decide +kernel
theorem dig_at:∀ x:Fin 16,((⟨#[48,49,50,51,52,53,54,55,56,57,97,98,99,100,101,102]⟩:ByteArray)[x.val]'(by have:=x.isLt;simp [ByteArray.size])).toNat=sx x.val:=by decide +kernel
set_option maxHeartbeats 400000 in
theorem low_any (x:Nat) (w:World) (hx:x<256) :
  Calls Tryz.prog 135 #[.int .u8 x] w fun e w'=>e = .returned (.int .u8 (sx (x % 16):Nat))∧w'=w:=by
 have h1:=and15u ⟨x,hx⟩
 simp only at h1
 have h2:=dig_at ⟨x % 16,Nat.mod_lt _ (by decide)⟩
 simp only at h2
 obtain ⟨q,hq⟩:∃ q,q=x % 16:=⟨_,rfl⟩
 have hq16:q<16:=by omega
 rw [← hq] at h1
 have HD:Hid (∀ h:q<16,((⟨#[48,49,50,51,52,53,54,55,56,57,97,98,99,100,101,102]⟩:ByteArray)[q]'(by simpa [ByteArray.size] using h)).toNat=sx q):=fun h=>dig_at ⟨q,h⟩
 rw [← hq]
 clear h2 hq
 go_enter Tryz.func135,Tryz.ntmps135
 go_wp2
 go_ret
 exact ⟨congrArg (fun z:Nat=>Ending.returned (.int .u8 z)) (HD.out hq16),rfl⟩
set_option maxHeartbeats 400000 in
theorem high_any (x:Nat) (w:World) (hx:x<256) :
  Calls Tryz.prog 136 #[.int .u8 x] w fun e w'=>e = .returned (.int .u8 (sx (x / 16):Nat))∧w'=w:=by
 obtain ⟨q,hq⟩:∃ q,q=x / 16:=⟨_,rfl⟩
 have hq16:q<16:=by omega
 have HD:Hid (∀ h:q<16,((⟨#[48,49,50,51,52,53,54,55,56,57,97,98,99,100,101,102]⟩:ByteArray)[q]'(by simpa [ByteArray.size] using h)).toNat=sx q):=fun h=>dig_at ⟨q,h⟩
 have hq':(x:Int) / 16=(q:Int):=by omega
 rw [← hq]
 clear hq
 go_enter Tryz.func136,Tryz.ntmps136
 go_wp2
 go_ret
 exact ⟨congrArg (fun z:Nat=>Ending.returned (.int .u8 z)) (HD.out hq16),rfl⟩
theorem sx_inj {a b:Nat} (ha:a<16) (hb:b<16):(sx a==sx b)=(a==b):=by
 unfold sx
 rw [Bool.eq_iff_iff]
 simp only [beq_iff_eq]
 split <;> split <;> omega
set_option maxHeartbeats 400000 in
theorem isTwice_any (x:Nat) (w:World) (hx:x<256) :
  Calls Tryz.prog 134 #[.int .u8 x] w fun e w'=>e = .returned (.bool (sx (x / 16)==sx (x % 16)))∧w'=w:=by
 have HH:Hid (∀ w,Calls Tryz.prog 136 #[.int .u8 x] w fun e w'=>e = .returned (.int .u8 (sx (x / 16):Nat))∧w'=w):=fun w=>high_any x w hx
 have HL:Hid (∀ w,Calls Tryz.prog 135 #[.int .u8 x] w fun e w'=>e = .returned (.int .u8 (sx (x % 16):Nat))∧w'=w):=fun w=>low_any x w hx
 generalize sx (x / 16)=p at *
 generalize sx (x % 16)=q at *
 go_enter Tryz.func134,Tryz.ntmps134
 go_wp2_with (first | (go_at_call 136;refine (HH.out _).mono ?_;rintro e w' ⟨rfl,rfl⟩) | (go_at_call 135;refine (HL.out _).mono ?_;rintro e w' ⟨rfl,rfl⟩))
 go_ret
 exact ⟨ret_bool (by simp;try omega),rfl⟩
end Go.Proofs.YtapachlhdgehjaaGreatDoor

/- The law once more, wider: an allocation may look at what the walk has reckoned (a slice that is built), and answers a value of its own; what comes late may hang on the early ones over any number of steps. -/
namespace Go.Proofs.YtapachlhdgehjaaGreatDoor
open Go.RowKit
namespace R3
def clo (ops:Array Oper) (n:Nat):Nat→List Nat→List Nat
 | 0,s=>s
 | f+1,s=>clo ops n f (s++(List.range n).filter fun i=>!s.contains i&&s.any fun j=>(preds ops j).contains i)
def phaseB (ops:Array Oper) (nq na:Nat):Bool :=
 ((List.range (nq+na)).all fun i=>(dsl ops i).isSome&&((List.range i).all fun j=>dsl ops j != dsl ops i)&&(preds ops i).all fun p=>decide (p<i)) &&
 ((List.range (nq+na)).all fun i=>match ops[i]? with
  | none=>false
  | some o=>(o.looksAt ops).all fun t=>(List.range (nq+na)).all fun j=>dsl ops j != some t||(decide (j<i)&&(decide (j<nq)&&(preds ops i).contains j))) &&
 (((List.range ops.size).drop (nq+na)).all fun k=>(List.range (nq+na)).all fun i=>(clo ops (nq+na) 12 (preds ops k)).contains i) &&
 decide (nq+na≤ops.size)&&Region.noSelect ops
def layL (mkv:Nat→Nat→Value) (bl:Nat→Nat):Nat→List Tmp→Act→Act
 | _,[],a=>a
 | k,d :: r,a=>layL mkv bl (k+1) r (a.put (some d) (mkv k (bl k)))
section
variable {P:Program} {ops:Array Oper} {Q:Exit→Act→World→Prop}
theorem layL_size (mkv:Nat→Nat→Value) (bl:Nat→Nat):∀ (l:List Tmp) (k:Nat) (a:Act),(layL mkv bl k l a).tmps.size=a.tmps.size
 | [],_,_=>rfl
 | d :: l,k,a=>by show (layL mkv bl (k+1) l (a.put (some d) (mkv k (bl k)))).tmps.size=_;rw [layL_size mkv bl l,put_size]
theorem layL_defers (mkv:Nat→Nat→Value) (bl:Nat→Nat):∀ (l:List Tmp) (k:Nat) (a:Act),(layL mkv bl k l a).defers=a.defers
 | [],_,_=>rfl
 | d :: l,k,a=>by show (layL mkv bl (k+1) l (a.put (some d) (mkv k (bl k)))).defers=_;rw [layL_defers mkv bl l,put_defers]
theorem layL_ne (mkv:Nat→Nat→Value) (bl:Nat→Nat):∀ (l:List Tmp) (k:Nat) (a:Act) (t:Tmp),(∀ j:Nat,l[j]?≠some t)→(layL mkv bl k l a).tmps[t]? = a.tmps[t]?
 | [],_,_,_,_=>rfl
 | d :: l,k,a,t,h=>by
  show (layL mkv bl (k+1) l (a.put (some d) (mkv k (bl k)))).tmps[t]? = _
  rw [layL_ne mkv bl l (k+1) _ t (fun j=>by simpa using h (j+1)),put_ne a _ (fun e=>h 0 (by simp [e]))]
theorem layL_at (mkv:Nat→Nat→Value) (bl:Nat→Nat):∀ (l:List Tmp) (k:Nat) (a:Act) (t:Tmp) (j:Nat),l[j]? = some t→(∀ i:Nat,i≠j→l[i]?≠some t)→(layL mkv bl k l a).tmps[t]? = if t<a.tmps.size then some (mkv (k+j) (bl (k+j))) else none
 | [],_,_,_,_,h,_=>by simp at h
 | d :: l,k,a,t,0,h,hu=>by
  show (layL mkv bl (k+1) l (a.put (some d) (mkv k (bl k)))).tmps[t]? = _
  have e:d=t:=by simpa using h
  subst e
  rw [layL_ne mkv bl l (k+1) _ d (fun i=>by simpa using hu (i+1) (by omega)),put_at];rfl
 | d :: l,k,a,t,j+1,h,hu=>by
  show (layL mkv bl (k+1) l (a.put (some d) (mkv k (bl k)))).tmps[t]? = _
  rw [layL_at mkv bl l (k+1) _ t j (by simpa using h) (fun i hi=>by simpa using hu (i+1) (by omega)),put_size,show k+1+j=k+(j+1) by omega]
structure PInv (ops:Array Oper) (W:World) (a0 a1:Act) (mkv:Nat→Nat→Value) (als:Nat→Obj) (nq na:Nat) (bl:Nat→Nat) (l:Array Bool) (a:Act) (w:World):Prop where
 size:l.size=ops.size
 late:∀ k,nq+na≤k→l.getD k false=false
 down:∀ i,l.getD i false=true→∀ p∈preds ops i,l.getD p false=true
 tsize:a.tmps.size=a0.tmps.size
 defers:a.defers=a0.defers
 free:∀ t,(∀ i,i<nq+na→l.getD i false=true→dsl ops i≠some t)→a.tmps[t]? = a0.tmps[t]?
 quiet:∀ i d,i<nq→l.getD i false=true→dsl ops i=some d→a.tmps[d]? = a1.tmps[d]?
 below:Below W.heap.size W w
 lo:∀ i,nq≤i→i<nq+na→l.getD i false=true→W.heap.size≤bl i∧w.heap[bl i]? = some (als i)
 slot:∀ i d,nq≤i→i<nq+na→l.getD i false=true→dsl ops i=some d→a.tmps[d]? = if d<a0.tmps.size then some (mkv i (bl i)) else none
 inj:∀ i j,nq≤i→i<nq+na→nq≤j→j<nq+na→l.getD i false=true→l.getD j false=true→i≠j→bl i≠bl j
theorem phase_spec {nq na:Nat} (h:phaseB ops nq na=true) :
  (∀ i,i<nq+na→(∃ d,dsl ops i=some d)∧(∀ j,j<i→dsl ops j≠dsl ops i)∧∀ p∈preds ops i,p<i) ∧
  (∀ i,i<nq+na→∃ o,ops[i]? = some o∧∀ t∈o.looksAt ops,∀ j,j<nq+na→dsl ops j=some t→j<i∧j<nq∧j∈preds ops i) ∧
  (∀ k,nq+na≤k→k<ops.size→∀ i,i<nq+na→i∈clo ops (nq+na) 12 (preds ops k)) ∧
  nq+na≤ops.size∧Region.noSelect ops=true:=by
 unfold phaseB at h
 simp only [Bool.and_eq_true,List.all_eq_true,List.mem_range,decide_eq_true_eq] at h
 obtain ⟨⟨⟨⟨h1,h2⟩,h3⟩,h4⟩,h5⟩:=h
 refine ⟨fun i hi=>?_,fun i hi=>?_,fun k hk1 hk2 i hi=>?_,h4,h5⟩
 ·obtain ⟨⟨e1,e2⟩,e3⟩:=h1 i hi
  exact ⟨Option.isSome_iff_exists.1 e1,fun j hj=>by simpa using e2 j hj,e3⟩
 ·have:=h2 i hi
  cases ho:ops[i]? with
  | none=>rw [ho] at this;simp at this
  | some o =>
   rw [ho] at this
   simp only [List.all_eq_true,List.mem_range] at this
   refine ⟨o,rfl,fun t ht j hj e=>?_⟩
   have:=this t ht j hj
   simp [e] at this
   exact ⟨this.1,this.2.1,this.2.2⟩
 ·have hm:k∈(List.range ops.size).drop (nq+na):=by
   rw [List.mem_drop_iff_getElem]
   refine ⟨k - (nq+na),by simp;omega,by simp;omega⟩
  have:=h3 k hm i hi
  simpa using this
theorem getD_set (l:Array Bool) (i j:Nat) (hi:i<l.size):(l.setIfInBounds i true).getD j false=if i=j then true else l.getD j false:=by
 by_cases e:i=j
 ·subst e
  simp [Array.getD_eq_getD_getElem?,hi]
 ·simp [e,Array.getD_eq_getD_getElem?,Array.getElem?_setIfInBounds_ne e]
def bsOf (als:Nat→Obj) (nq na:Nat) (bl:Nat→Nat) (l:Array Bool):List (Nat × Obj) :=
 ((List.range (nq+na)).filter fun i=>decide (nq≤i)&&l.getD i false).map fun i=>(bl i,als i)
theorem mem_bsOf {als:Nat→Obj} {nq na:Nat} {bl:Nat→Nat} {l:Array Bool} {p:Nat × Obj}:p∈bsOf als nq na bl l↔∃ i,nq≤i∧i<nq+na∧l.getD i false=true∧p=(bl i,als i):=by
 unfold bsOf
 simp only [List.mem_map,List.mem_filter,List.mem_range,Bool.and_eq_true,decide_eq_true_eq]
 constructor
 ·rintro ⟨i,⟨h1,h2,h3⟩,rfl⟩
  exact ⟨i,h2,h1,h3,rfl⟩
 ·rintro ⟨i,h1,h2,h3,rfl⟩
  exact ⟨i,⟨h2,h1,h3⟩,rfl⟩
section steps
variable {W:World} {a0 a1:Act} {mkv:Nat→Nat→Value} {als:Nat→Obj} {nq na:Nat} {bl:Nat→Nat} {l:Array Bool} {a:Act} {w:World}
theorem PInv.stepQuiet (hB:phaseB ops nq na=true) (I:PInv ops W a0 a1 mkv als nq na bl l a w) {i:Nat} (hi:i<nq) (hr:i∈Region.ready .any ops l)
  (out:∀ t,(∀ j,j<nq→dsl ops j≠some t)→a1.tmps[t]? = a0.tmps[t]?) (hz:a1.tmps.size=a0.tmps.size)
  (hF:∀ bs,Nonempty (Gb W bs)→∀ o d,ops[i]? = some o→dsl ops i=some d→Fix P ops (fun w'=>∃ t:Gb W bs,w'=t.wd) a1 o d) :
  wpOp P ops Q i (fun a' w'=>PInv ops W a0 a1 mkv als nq na bl (l.setIfInBounds i true) a' w') a w:=by
 obtain ⟨s1,s2,s3,s4,s5⟩:=phase_spec hB
 obtain ⟨o,ho,hlk⟩:=s2 i (by omega)
 obtain ⟨⟨d,hd⟩,hdist,_⟩:=s1 i (by omega)
 obtain ⟨hnl,o',ho',hpre⟩:=mem_ready.1 hr
 rw [ho] at ho'
 cases ho'
 have hod:o.dst=some d:=by simpa [dsl,ho] using hd
 have hpr:∀ p∈preds ops i,l.getD p false=true:=by
  intro p hp
  unfold preds at hp
  rw [ho] at hp
  simp only [List.mem_map,List.mem_filter] at hp
  obtain ⟨e,⟨he,hb⟩,rfl⟩:=hp
  exact hpre e (by simpa using he) hb
 have hil:i<l.size:=by rw [I.size];omega
 have hsel:=Region.noSelect_spec s5
 have hag:∀ t∈o.looksAt ops,a1.tmps[t]? = a.tmps[t]? := by
  intro t ht
  by_cases hx:∃ j,j<nq+na∧dsl ops j=some t
  ·obtain ⟨j,hj,hjt⟩:=hx
   obtain ⟨_,h2,h3⟩:=hlk t ht j hj hjt
   exact (I.quiet j t h2 (hpr j h3) hjt).symm
  ·rw [I.free t (fun j hj _ e=>hx ⟨j,hj,e⟩),out t (fun j hj e=>hx ⟨j,by omega,e⟩)]
 have next:∀ v w',(∃ t:Gb W (bsOf als nq na bl l),w'=t.wd)→(a1.tmps[d]? = if d<a1.tmps.size then some v else none)→PInv ops W a0 a1 mkv als nq na bl (l.setIfInBounds i true) (a.put o.dst v) w':=by
  rintro v w' ⟨t,rfl⟩ hv
  have hput:∀ t,t≠d→(a.put o.dst v).tmps[t]? = a.tmps[t]? := fun t ht=>by rw [hod];exact put_ne a v (Ne.symm ht)
  refine ⟨by simp [I.size],fun k hk=>?_,fun j hj p hp=>?_,by rw [put_size];exact I.tsize,by rw [put_defers];exact I.defers,fun t ht=>?_,fun j t hj hl ht=>?_,t.below,fun j h1 h2 hl=>?_,fun j t h1 h2 hl ht=>?_,fun j k h1 h2 h3 h4 hl hk hne=>?_⟩
  ·rw [getD_set l i k hil,if_neg (by omega)];exact I.late k hk
  ·rw [getD_set l i p hil]
   rw [getD_set l i j hil] at hj
   by_cases e:i=j
   ·subst e
    rw [hpr p hp];simp
   ·rw [if_neg e] at hj
    rw [I.down j hj p hp];simp
  ·have hne:t≠d:=fun e=>ht i (by omega) (by rw [getD_set l i i hil,if_pos rfl]) (by rw [hd,e])
   rw [hput t hne]
   exact I.free t fun j hj hl=>ht j hj (by rw [getD_set l i j hil,hl];simp)
  ·rw [getD_set l i j hil] at hl
   by_cases e:i=j
   ·subst e
    rw [hd] at ht
    cases ht
    rw [hod,put_at,hv,I.tsize,hz]
   ·rw [if_neg e] at hl
    have hne:t≠d:=fun e'=>by
     subst e'
     rcases Nat.lt_or_gt_of_ne e with h | h
     ·exact (s1 j (by omega)).2.1 i h (by rw [hd,ht])
     ·exact hdist j h (by rw [hd,ht])
    rw [hput t hne]
    exact I.quiet j t hj hl ht
  ·rw [getD_set l i j hil,if_neg (by omega)] at hl
   exact ⟨(I.lo j h1 h2 hl).1,t.held _ (mem_bsOf.2 ⟨j,h1,h2,hl,rfl⟩)⟩
  ·rw [getD_set l i j hil,if_neg (by omega)] at hl
   have hne:t≠d:=fun e'=>by
    subst e'
    exact (s1 j (by omega)).2.1 i (by omega) (by rw [hd,ht])
   rw [hput t hne]
   exact I.slot j t h1 h2 hl ht
  ·rw [getD_set l i j hil,if_neg (by omega)] at hl
   rw [getD_set l i k hil,if_neg (by omega)] at hk
   exact I.inj j k h1 h2 h3 h4 hl hk hne
 have hCw:∃ t:Gb W (bsOf als nq na bl l),w=t.wd:=⟨⟨w,I.below,fun p hp=>by
  obtain ⟨j,h1,h2,hl,rfl⟩:=mem_bsOf.1 hp
  exact (I.lo j h1 h2 hl).2⟩,rfl⟩
 have hFx:=hF (bsOf als nq na bl l) (by obtain ⟨t,_⟩:=hCw;exact ⟨t⟩) o d ho hd
 unfold wpOp
 rw [ho]
 show if Region.wanted o (yielded ops a.tmps)=true then _ else _
 rw [← want_agree hag]
 rcases hFx with ⟨hw,v,hv,hd1⟩ | ⟨hw,hd1⟩
 ·rw [if_pos hw]
  refine .inl (Oper.wp_of_quiet (C:=fun w'=>∃ t:Gb W (bsOf als nq na bl l),w'=t.wd) (K:=fun a'=>a'=a.put o.dst v) hCw (fun a' w' hw' e=>?_) ⟨v,fun w' hw'=>quietAt_agree (hsel i o · · ho) hag (hv w' hw'),rfl⟩)
  subst e
  exact next v w' hw' hd1
 ·rw [if_neg (by rw [hw];simp)]
  exact next undef w hCw hd1
theorem PInv.stepAlloc (hB:phaseB ops nq na=true) (I:PInv ops W a0 a1 mkv als nq na bl l a w) {i:Nat} (hi:nq≤i) (hi':i<nq+na) (hr:i∈Region.ready .any ops l)
  (out:∀ t,(∀ j,j<nq→dsl ops j≠some t)→a1.tmps[t]? = a0.tmps[t]?)
  {o:Oper} (ho:ops[i]? = some o) (hg:o.guard=none) (hrun0:(execOp a1.eval o).run P w = .ok (.value (mkv i w.heap.size)) (w.alloc (als i))) :
  wpOp P ops Q i (fun a' w'=>∃ bl,PInv ops W a0 a1 mkv als nq na bl (l.setIfInBounds i true) a' w') a w:=by
 obtain ⟨s1,s2,s3,s4,s5⟩:=phase_spec hB
 obtain ⟨⟨d,hd⟩,hdist,_⟩:=s1 i (by omega)
 obtain ⟨o2,ho2,hlk⟩:=s2 i (by omega)
 rw [ho] at ho2
 cases ho2
 obtain ⟨hnl,o',ho',hpre⟩:=mem_ready.1 hr
 rw [ho] at ho'
 cases ho'
 have hod:o.dst=some d:=by simpa [dsl,ho] using hd
 have hpr:∀ p∈preds ops i,l.getD p false=true:=by
  intro p hp
  unfold preds at hp
  rw [ho] at hp
  simp only [List.mem_map,List.mem_filter] at hp
  obtain ⟨e,⟨he,hb⟩,rfl⟩:=hp
  exact hpre e (by simpa using he) hb
 have hag:∀ t∈o.looksAt ops,a1.tmps[t]? = a.tmps[t]? := by
  intro t ht
  by_cases hx:∃ j,j<nq+na∧dsl ops j=some t
  ·obtain ⟨j,hj,hjt⟩:=hx
   obtain ⟨_,h2,h3⟩:=hlk t ht j hj hjt
   exact (I.quiet j t h2 (hpr j h3) hjt).symm
  ·rw [I.free t (fun j hj _ e=>hx ⟨j,hj,e⟩),out t (fun j hj e=>hx ⟨j,by omega,e⟩)]
 have hrun:(execOp a.eval o).run P w = .ok (.value (mkv i w.heap.size)) (w.alloc (als i)):=by
  rw [← exec_agree (Region.noSelect_spec s5 i o · · ho) hag];exact hrun0
 have hil:i<l.size:=by rw [I.size];omega
 have hni:l.getD i false=false:=by
  have:=hnl
  simp [Array.getD_eq_getD_getElem?,hil] at this ⊢
  exact this
 unfold wpOp
 rw [ho]
 show if Region.wanted o (yielded ops a.tmps)=true then _ else _
 rw [if_pos (by simp [Region.wanted,hg])]
 refine .inl ?_
 unfold Oper.wp
 rw [hrun,Oper.upon_value]
 have hput:∀ t,t≠d→(a.put o.dst (mkv i w.heap.size)).tmps[t]? = a.tmps[t]? := fun t ht=>by rw [hod];exact put_ne a _ (Ne.symm ht)
 have hother:∀ j t,j<nq+na→j≠i→dsl ops j=some t→t≠d:=fun j t hj hne ht e=>by
  subst e
  rcases Nat.lt_or_gt_of_ne hne with h | h
  ·exact hdist j h (by rw [hd,ht])
  ·exact (s1 j hj).2.1 i h (by rw [hd,ht])
 have lt_of:∀ {b:Nat} {ob:Obj},w.heap[b]? = some ob→b<w.heap.size:=fun h=>(Array.getElem?_eq_some_iff.1 h).1
 refine ⟨fun j=>if j=i then w.heap.size else bl j,by simp [I.size],fun k hk=>?_,fun j hj p hp=>?_,by rw [put_size];exact I.tsize,by rw [put_defers];exact I.defers,fun t ht=>?_,fun j t hj hl ht=>?_,I.below.alloc I.below.size _,fun j h1 h2 hl=>?_,fun j t h1 h2 hl ht=>?_,fun j k h1 h2 h3 h4 hl hk hne=>?_⟩
 ·rw [getD_set l i k hil,if_neg (by omega)];exact I.late k hk
 ·rw [getD_set l i p hil]
  rw [getD_set l i j hil] at hj
  by_cases e:i=j
  ·subst e
   rw [hpr p hp];simp
  ·rw [if_neg e] at hj
   rw [I.down j hj p hp];simp
 ·have hne:t≠d:=fun e=>ht i (by omega) (by rw [getD_set l i i hil,if_pos rfl]) (by rw [hd,e])
  rw [hput t hne]
  exact I.free t fun j hj hl=>ht j hj (by rw [getD_set l i j hil,hl];simp)
 ·rw [getD_set l i j hil,if_neg (by omega)] at hl
  rw [hput t (hother j t (by omega) (by omega) ht)]
  exact I.quiet j t hj hl ht
 ·rw [getD_set l i j hil] at hl
  by_cases e:j=i
  ·subst e
   simp only [if_true]
   exact ⟨I.below.size,by show (w.heap.push (als j))[w.heap.size]? = _;simp⟩
  ·rw [if_neg (Ne.symm e)] at hl
   simp only [e,if_false]
   obtain ⟨k1,k2⟩:=I.lo j h1 h2 hl
   exact ⟨k1,by rw [Below.heap_alloc _ _ _ (lt_of k2)];exact k2⟩
 ·rw [getD_set l i j hil] at hl
  by_cases e:j=i
  ·subst e
   rw [hd] at ht
   cases ht
   simp only [if_true]
   rw [hod,put_at,I.tsize]
  ·rw [if_neg (Ne.symm e)] at hl
   simp only [e,if_false]
   rw [hput t (hother j t h2 e ht)]
   exact I.slot j t h1 h2 hl ht
 ·rw [getD_set l i j hil] at hl
  rw [getD_set l i k hil] at hk
  by_cases e:j=i
  ·subst e
   have e':k≠j:=Ne.symm hne
   rw [if_neg (Ne.symm e')] at hk
   simp only [e',if_true,if_false]
   have:=lt_of (I.lo k h3 h4 hk).2
   omega
  ·rw [if_neg (Ne.symm e)] at hl
   by_cases e':k=i
   ·subst e'
    simp only [e,if_true,if_false]
    have:=lt_of (I.lo j h1 h2 hl).2
    omega
   ·rw [if_neg (Ne.symm e')] at hk
    simp only [e,e',if_false]
    exact I.inj j k h1 h2 h3 h4 hl hk hne
def left (n:Nat) (l:Array Bool):Nat:=((List.range n).filter fun i=>!l.getD i false).length
theorem left_set (n:Nat) (l:Array Bool) (i:Nat) (hi:i<n) (hl:i<l.size) (h:l.getD i false=false):left n (l.setIfInBounds i true)+1=left n l:=by
 unfold left
 have key:∀ (xs:List Nat),xs.Nodup→i∈xs→(xs.filter fun j=>!(l.setIfInBounds i true).getD j false).length+1=(xs.filter fun j=>!l.getD j false).length:=by
  intro xs
  induction xs with
  | nil=>intro _ h;simp at h
  | cons x xs ih =>
   intro hn hm
   rw [List.nodup_cons] at hn
   by_cases e:x=i
   ·subst e
    have hrest:(xs.filter fun j=>!(l.setIfInBounds x true).getD j false)=xs.filter fun j=>!l.getD j false:=List.filter_congr fun j hj=>by
     rw [getD_set l x j hl,if_neg (fun e=>hn.1 (by rw [e];exact hj))]
    rw [List.filter_cons,List.filter_cons,hrest,getD_set l x x hl,if_pos rfl,h]
    simp
   ·have hm':i∈xs:=by
     rcases List.mem_cons.1 hm with h | h
     ·exact absurd h.symm e
     ·exact h
    have:=ih hn.2 hm'
    rw [List.filter_cons,List.filter_cons,getD_set l i x hl,if_neg (Ne.symm e)]
    cases l.getD x false
    ·simp only [Bool.not_false,if_true,List.length_cons];omega
    ·simpa using this
 exact key _ List.nodup_range (List.mem_range.2 hi)
theorem left_zero {n:Nat} {l:Array Bool} (h:left n l=0):∀ i,i<n→l.getD i false=true:=by
 intro i hi
 unfold left at h
 rw [List.length_eq_zero_iff,List.filter_eq_nil_iff] at h
 have:=h i (List.mem_range.2 hi)
 simpa using this
theorem phase_any (hB:phaseB ops nq na=true) (out:∀ t,(∀ j,j<nq→dsl ops j≠some t)→a1.tmps[t]? = a0.tmps[t]?) (hz:a1.tmps.size=a0.tmps.size) (hdf:a1.defers=a0.defers)
  (hF:∀ i,i<nq→∀ bs,Nonempty (Gb W bs)→∀ o d,ops[i]? = some o→dsl ops i=some d→Fix P ops (fun w'=>∃ t:Gb W bs,w'=t.wd) a1 o d)
  (hal:∀ i,nq≤i→i<nq+na→∃ o,ops[i]? = some o∧o.guard=none∧∀ w:World,(execOp a1.eval o).run P w = .ok (.value (mkv i w.heap.size)) (w.alloc (als i)))
  (dl:List Tmp) (hdl:∀ k,dl[k]? = if k<na then dsl ops (nq+k) else none)
  (hfin:∀ (bl:Nat→Nat) (w:World),Below W.heap.size W w→(∀ i,nq≤i→i<nq+na→W.heap.size≤bl i∧w.heap[bl i]? = some (als i))→(∀ i j,nq≤i→i<nq+na→nq≤j→j<nq+na→i≠j→bl i≠bl j) →
   wpAny P .any ops Q (ops.size - (nq+na)) ((Array.range ops.size).map fun k=>decide (k<nq+na)) (layL mkv bl nq dl a1) w) :
  ∀ (n:Nat) (bl:Nat→Nat) (l:Array Bool) (a:Act) (w:World),left (nq+na) l=n→PInv ops W a0 a1 mkv als nq na bl l a w→wpAny P .any ops Q (n+(ops.size - (nq+na))) l a w:=by
 obtain ⟨s1,s2,s3,s4,s5⟩:=phase_spec hB
 intro n
 induction n with
 | zero =>
  intro bl l a w hn I
  have hall:=left_zero hn
  have hl:l=(Array.range ops.size).map fun k=>decide (k<nq+na):=by
   refine Array.ext_getElem? fun k=>?_
   by_cases hk:k<ops.size
   ·have hk':k<l.size:=by rw [I.size];exact hk
    have e1:l[k]? = some (l.getD k false):=by simp [Array.getD_eq_getD_getElem?,hk']
    rw [e1]
    by_cases h:k<nq+na
    ·rw [hall k h];simp [hk,h]
    ·rw [I.late k (by omega)];simp [hk,h]
   ·have hk':¬ k<l.size:=by rw [I.size];exact hk
    simp [hk,hk']
  have ha:a=layL mkv bl nq dl a1:=by
   have hs:a.tmps.size=(layL mkv bl nq dl a1).tmps.size:=by rw [layL_size,I.tsize,hz]
   have ht:a.tmps=(layL mkv bl nq dl a1).tmps:=by
    refine Array.ext_getElem? fun t=>?_
    by_cases hx:∃ k,k<na∧dsl ops (nq+k)=some t
    ·obtain ⟨k,hk,hkt⟩:=hx
     rw [layL_at mkv bl dl nq a1 t k (by rw [hdl,if_pos hk,hkt]) (fun j hj e=>by
      rw [hdl] at e
      by_cases h:j<na
      ·rw [if_pos h] at e
       rcases Nat.lt_or_gt_of_ne hj with h' | h'
       ·exact (s1 (nq+k) (by omega)).2.1 (nq+j) (by omega) (by rw [hkt,e])
       ·exact (s1 (nq+j) (by omega)).2.1 (nq+k) (by omega) (by rw [hkt,e])
      ·rw [if_neg h] at e;simp at e),hz]
     exact I.slot (nq+k) t (by omega) (by omega) (hall _ (by omega)) hkt
    ·have hne:∀ k:Nat,dl[k]?≠some t:=fun k e=>by
      rw [hdl] at e
      by_cases h:k<na
      ·rw [if_pos h] at e;exact hx ⟨k,h,e⟩
      ·rw [if_neg h] at e;simp at e
     rw [layL_ne mkv bl dl nq a1 t hne]
     by_cases hy:∃ i,i<nq∧dsl ops i=some t
     ·obtain ⟨i,hi,hit⟩:=hy
      exact I.quiet i t hi (hall i (by omega)) hit
     ·rw [out t (fun j hj e=>hy ⟨j,hj,e⟩)]
      refine I.free t fun i hi _ e=>?_
      by_cases h:i<nq
      ·exact hy ⟨i,h,e⟩
      ·exact hx ⟨i - nq,by omega,by rw [show nq+(i - nq)=i by omega];exact e⟩
   have hd:a.defers=(layL mkv bl nq dl a1).defers:=by rw [layL_defers,I.defers,hdf]
   cases a
   cases hL:layL mkv bl nq dl a1
   rw [hL] at ht hd
   simp only at ht hd
   rw [ht,hd]
  rw [Nat.zero_add,hl,ha]
  exact hfin bl w I.below (fun i h1 h2=>I.lo i h1 h2 (hall i h2)) (fun i j h1 h2 h3 h4=>I.inj i j h1 h2 h3 h4 (hall i h2) (hall j h4))
 | succ n ih =>
  intro bl l a w hn I
  have hex:∃ i,i<nq+na∧l.getD i false=false:=by
   refine Classical.byContradiction fun h=>?_
   have:left (nq+na) l=0:=by
    unfold left
    rw [List.length_eq_zero_iff,List.filter_eq_nil_iff]
    intro i hi
    cases e:l.getD i false
    ·exact absurd ⟨i,List.mem_range.1 hi,e⟩ h
    ·simp
   omega
  have first:∀ i∈Region.ready .any ops l,i<nq+na∧l.getD i false=false:=by
   intro i hi
   obtain ⟨hnl,o,ho,hpre⟩:=mem_ready.1 hi
   have his:i<ops.size:=(Array.getElem?_eq_some_iff.1 ho).1
   have hil:i<l.size:=by rw [I.size];exact his
   have hni:l.getD i false=false:=by
    have:=hnl
    simp [Array.getD_eq_getD_getElem?,hil] at this ⊢
    exact this
   refine ⟨Classical.byContradiction fun hge=>?_,hni⟩
   obtain ⟨j,hj,hjl⟩:=hex
   have hpr:∀ p∈preds ops i,l.getD p false=true:=by
    intro p hp
    unfold preds at hp
    rw [ho] at hp
    simp only [List.mem_map,List.mem_filter] at hp
    obtain ⟨e,⟨he,hb⟩,rfl⟩:=hp
    exact hpre e (by simpa using he) hb
   have hcl:∀ (f:Nat) (s:List Nat),(∀ p∈s,l.getD p false=true)→∀ p∈clo ops (nq+na) f s,l.getD p false=true:=by
    intro f
    induction f with
    | zero=>intro s hs p hp;exact hs p hp
    | succ f ihf =>
     intro s hs
     refine ihf _ fun p hp=>?_
     rw [List.mem_append,List.mem_filter] at hp
     rcases hp with hp | ⟨_,hp⟩
     ·exact hs p hp
     ·rw [Bool.and_eq_true,List.any_eq_true] at hp
      obtain ⟨_,q,hq,hqp⟩:=hp
      exact I.down q (hs q hq) p (by simpa using hqp)
   rw [hcl 12 _ hpr j (s3 i (by omega) his j hj)] at hjl
   simp at hjl
  rw [show n+1+(ops.size - (nq+na))=n+(ops.size - (nq+na))+1 by omega]
  refine ⟨fun he=>?_,fun i hi=>?_⟩
  ·exfalso
   have hmin:∀ m,∀ i,i≤m→i<nq+na→l.getD i false=false→False:=by
    intro m
    induction m with
    | zero =>
     intro i him hi hil
     refine absurd (mem_ready (md:=.any).2 ⟨?_,?_⟩:i∈Region.ready .any ops l) (by rw [he];simp)
     ·have:i<l.size:=by rw [I.size];omega
      simp [Array.getD_eq_getD_getElem?,this] at hil ⊢
      exact hil
     ·refine ⟨ops[i]'(by omega),by simp,fun e hem hb=>?_⟩
      have:e.on∈preds ops i:=by
       unfold preds
       rw [show ops[i]? = some (ops[i]'(by omega)) by simp]
       simp only [List.mem_map,List.mem_filter]
       exact ⟨e,⟨by simpa using hem,hb⟩,rfl⟩
      have:=(s1 i hi).2.2 _ this
      omega
    | succ m ihm =>
     intro i him hi hil
     refine absurd (mem_ready (md:=.any).2 ⟨?_,?_⟩:i∈Region.ready .any ops l) (by rw [he];simp)
     ·have:i<l.size:=by rw [I.size];omega
      simp [Array.getD_eq_getD_getElem?,this] at hil ⊢
      exact hil
     ·refine ⟨ops[i]'(by omega),by simp,fun e hem hb=>?_⟩
      have hp:e.on∈preds ops i:=by
       unfold preds
       rw [show ops[i]? = some (ops[i]'(by omega)) by simp]
       simp only [List.mem_map,List.mem_filter]
       exact ⟨e,⟨by simpa using hem,hb⟩,rfl⟩
      have hlt:=(s1 i hi).2.2 _ hp
      cases hv:l.getD e.on false
      ·exact absurd (ihm e.on (by omega) (by omega) hv) (fun h=>h)
      ·rfl
   obtain ⟨i,hi,hil⟩:=hex
   exact hmin i i (Nat.le_refl _) hi hil
  ·obtain ⟨hlt,hni⟩:=first i hi
   have hil:i<l.size:=by rw [I.size];omega
   have hleft:left (nq+na) (l.setIfInBounds i true)=n:=by
    have:=left_set (nq+na) l i hlt hil hni
    omega
   by_cases hq:i<nq
   ·exact wpOp_mono (fun a' w' h=>ih bl _ a' w' hleft h) (I.stepQuiet hB hq hi out hz (hF i hq))
   ·obtain ⟨o,ho,hg,hrun⟩:=hal i (by omega) hlt
    exact wpOp_mono (fun a' w' ⟨bl',h⟩=>ih bl' _ a' w' hleft h) (I.stepAlloc hB (by omega) hlt hi out ho hg (hrun w))
end steps
theorem wp_region_phase {id:Nat} {a0:Act} {W:World} (a1:Act) (nq na:Nat) (mkv:Nat→Nat→Value) (als:Nat→Obj) (dl:List Tmp) (hm:P.follows .mixedOrders=true) (hB:phaseB ops nq na=true)
  (hdl:∀ k,dl[k]? = if k<na then dsl ops (nq+k) else none)
  (hq:∀ bs,Nonempty (Gb W bs)→wpQuiet P ops (fun w'=>∃ t:Gb W bs,w'=t.wd) (fun a'=>a'=a1) (ops.toList.take nq) a0)
  (hal:∀ i,nq≤i→i<nq+na→∃ o,ops[i]? = some o∧o.guard=none∧∀ w:World,(execOp a1.eval o).run P w = .ok (.value (mkv i w.heap.size)) (w.alloc (als i)))
  (hfin:∀ (bl:Nat→Nat) (w:World),Below W.heap.size W w→(∀ i,nq≤i→i<nq+na→W.heap.size≤bl i∧w.heap[bl i]? = some (als i))→(∀ i j,nq≤i→i<nq+na→nq≤j→j<nq+na→i≠j→bl i≠bl j) →
   wpAny P .any ops Q (ops.size - (nq+na)) ((Array.range ops.size).map fun k=>decide (k<nq+na)) (layL mkv bl nq dl a1) w) :
  (Code.region id ops true).wp P Q a0 W:=by
 obtain ⟨s1,s2,s3,s4,s5⟩:=phase_spec hB
 have hlen:(ops.toList.take nq).length=nq:=by simp;omega
 have walk:∀ bs,Nonempty (Gb W bs)→_:=fun bs hne=>fix_of_walk (P:=P) (ops:=ops) (C:=fun w'=>∃ t:Gb W bs,w'=t.wd) (a1:=a1) (Region.noSelect_spec s5) (ops.toList.take nq) 0 a0
  (fun j=>by
   by_cases h:j<nq
   ·refine .inr ⟨by simp [h],by omega⟩
   ·exact .inl (by simp;omega))
  (fun j hj=>by rw [Nat.zero_add];exact (s1 j (by rw [hlen] at hj;omega)).1)
  (fun i j h1 h2=>(s1 i (by rw [hlen] at h2;omega)).2.1 j h1)
  (fun i o _ h2 h3 t ht j h4 h5 e=>by
   rw [hlen] at h2 h5
   obtain ⟨o',ho',hl⟩:=s2 i (by omega)
   rw [h3] at ho'
   cases ho'
   have:=(hl t ht j (by omega) e).1
   omega) (hq bs hne)
 obtain ⟨w1,w2,w3,_⟩:=walk [] ⟨⟨W,Below.refl _ _,fun p hp=>by simp at hp⟩⟩
 refine wp_region_any hm ?_
 have hfa:=phase_any (P:=P) (Q:=Q) (W:=W) (a0:=a0) (a1:=a1) (mkv:=mkv) (als:=als) hB (fun t ht=>w3 t (fun j hj=>by rw [Nat.zero_add];exact ht j (by rw [hlen] at hj;omega))) w1 w2
  (fun i hi bs hne o d ho hd=>(walk bs hne).2.2.2 i o d (Nat.zero_le _) (by rw [hlen];omega) ho hd) hal dl hdl hfin (nq+na) (fun _=>0) (Array.replicate ops.size false) a0 { W with drawn:=W.drawn+1 }
 have hf0:∀ k,(Array.replicate ops.size false).getD k false=false:=fun k=>by
  simp [Array.getD_eq_getD_getElem?,Array.getElem?_replicate]
  split <;> rfl
 have hl0:left (nq+na) (Array.replicate ops.size false)=nq+na:=by
  unfold left
  rw [List.filter_eq_self.2 (fun i _=>by rw [hf0];rfl),List.length_range]
 have:=hfa hl0 ⟨by simp,fun k _=>hf0 k,fun i h=>by rw [hf0] at h;simp at h,rfl,rfl,fun _ _=>rfl,fun i d _ h=>by rw [hf0] at h;simp at h,(Below.refl _ W).drew,
  fun i _ _ h=>by rw [hf0] at h;simp at h,fun i d _ _ h=>by rw [hf0] at h;simp at h,fun i j _ _ _ _ h=>by rw [hf0] at h;simp at h⟩
 rwa [show nq+na+(ops.size - (nq+na))=ops.size by omega] at this
theorem wp_region_lit {id:Nat} {a0:Act} {W:World} {l:List Oper} (nq na ns:Nat) (mkv:Nat→Nat→Value) (als:Nat→Obj) (dl:List Tmp) (hm:P.follows .mixedOrders=true) (hB:phaseB l.toArray nq na=true) (hns:l.length - (nq+na)=ns)
  (hdl:∀ k,k<na→dl[k]? = dsl l.toArray (nq+k)) (hdn:dl.length=na)
  (h:∃ a1:Act,(∀ bs,Nonempty (Gb W bs)→wpQuiet P l.toArray (fun w'=>∃ t:Gb W bs,w'=t.wd) (fun a'=>a'=a1) (l.take nq) a0) ∧
   (∀ i,nq≤i→i<nq+na→∃ o,l.toArray[i]? = some o∧o.guard=none∧∀ w:World,(execOp a1.eval o).run P w = .ok (.value (mkv i w.heap.size)) (w.alloc (als i))) ∧
   ∀ (bl:Nat→Nat) (w:World),Below W.heap.size W w→(∀ i,nq≤i→i<nq+na→W.heap.size≤bl i∧w.heap[bl i]? = some (als i))→(∀ i j,nq≤i→i<nq+na→nq≤j→j<nq+na→i≠j→bl i≠bl j) →
    wpAny P .any l.toArray Q ns ((Array.range l.length).map fun k=>decide (k<nq+na)) (layL mkv bl nq dl a1) w) :
  (Code.region id l.toArray true).wp P Q a0 W:=by
 obtain ⟨a1,hq,hal,hfin⟩:=h
 refine wp_region_phase a1 nq na mkv als dl hm hB (fun k=>?_) (by simpa using hq) hal (fun bl w h1 h2 h3=>?_)
 ·by_cases h:k<na
  ·rw [if_pos h];exact hdl k h
  ·rw [if_neg h];simp;omega
 ·have:=hfin bl w h1 h2 h3
  rw [← hns] at this
  simpa using this
end
end R3
end Go.Proofs.YtapachlhdgehjaaGreatDoor

/- Contract of package colour: Text. -/
namespace Go.Proofs.YtapachlhdgehjaaGreatDoor
open Go.RowKit
theorem add_at (g j:Nat):(⟨g,0,none⟩:Addr).add j=⟨g,j,none⟩:=by
 simp [Addr.add]
 intro h
 exact h.symm
theorem own_below {w w1:World} {base:Nat} {e:TypeId} {size:Nat} {v:Value} {n:Nat} {xs:List Value} (h:w.ownsRow base e size v n xs) (hb:Below w.heap.size w w1):w1.ownsRow base e size v n xs:=by
 refine ⟨h.1,?_⟩
 rcases h.2 with h' | ⟨g,cap,cur,h1,h2,hg,rest⟩
 ·exact .inl h'
 ·exact .inr ⟨g,cap,cur,h1,h2,by rw [hb.block g (Array.getElem?_eq_some_iff.1 hg).1];exact hg,rest⟩
theorem info_u8:(Tryz.prog.info? 5).map (fun i=>(i.zero,i.size,i.bytes))=some (some (.int .u8 0),1,1):=by kernel_rfl
theorem info_parts8 {P:Program} {t:TypeId} {z:Value} {s b:Nat} (h:(P.info? t).map (fun i=>(i.zero,i.size,i.bytes))=some (some z,s,b)):∃ i,P.info? t=some i∧i.zero=some z∧i.size=s∧i.bytes=b:=by
 cases hi:P.info? t with
 | none=>rw [hi] at h;simp at h
 | some i=>rw [hi] at h;simp at h;exact ⟨i,rfl,h.1,h.2.1,h.2.2⟩
def bt (n:Nat):UInt8:=UInt8.ofNat (sx n)
theorem bt_nat {n:Nat} (h:n<16):((bt n).toNat:Int)=((sx n:Nat):Int):=by
 have:(bt n).toNat=sx n:=by
  unfold bt
  rw [UInt8.toNat_ofNat']
  unfold sx
  split <;> omega
 rw [this]
def tw (x:Nat):Bool:=sx (x / 16)==sx (x % 16)
def txtL (r g b a:Nat):List UInt8 :=
 if a=255∧tw r=true∧tw g=true∧tw b=true then [35,bt (r % 16),bt (g % 16),bt (b % 16)]
 else if a=255 then [35,bt (r / 16),bt (r % 16),bt (g / 16),bt (g % 16),bt (b / 16),bt (b % 16)]
 else [35,bt (r / 16),bt (r % 16),bt (g / 16),bt (g % 16),bt (b / 16),bt (b % 16),bt (a / 16),bt (a % 16)]
def txt (c:Co):ByteArray:=⟨(txtL c.r.toNat c.g.toNat c.b.toNat c.a.toNat).toArray⟩
theorem conv_own {w:World} {base g n cap:Nat} {xs:List Value} (l:List UInt8) (h:w.ownsRow base 5 1 (.slice (some ⟨g,0,none⟩) n cap) n xs) (hl:l.length=n) (hx:∀ j (hj:j<l.length),xs[j]? = some (.int .u8 (l[j].toNat:Int))) :
  (convert 77 9 (.slice (some ⟨g,0,none⟩) n cap)).run Tryz.prog w = .ok (.string ⟨l.toArray⟩) w:=by
 subst hl
 refine run_convert_bytes_back w 77 9 5 ⟨g,0,none⟩ cap l Tryz.underlying77 Tryz.underlying5 Tryz.underlying9 fun j hj=>?_
 rw [add_at,h.cellAt j (by omega)]
 exact hx j hj
set_option maxHeartbeats 1000000 in
theorem text_short (r g b:Nat) (w:World) (hr:r<256) (hg:g<256) (hb:b<256) (t1:tw r=true) (t2:tw g=true) (t3:tw b=true) :
  Calls Tryz.prog 100 #[.agg #[.int .u8 r,.int .u8 g,.int .u8 b,.int .u8 255]] w fun e w'=>e = .returned (.string ⟨#[35,bt (r % 16),bt (g % 16),bt (b % 16)]⟩)∧Below w.heap.size w w':=by
 have hT:Hid (∀ x w,x<256→Calls Tryz.prog 134 #[.int .u8 ((x:Nat):Int)] w fun e w'=>e = .returned (.bool (tw x))∧w'=w):=fun x w hx=>isTwice_any x w hx
 have hL:Hid (∀ x w,x<256→Calls Tryz.prog 135 #[.int .u8 ((x:Nat):Int)] w fun e w'=>e = .returned (.int .u8 ((sx (x % 16):Nat):Int))∧w'=w):=fun x w hx=>low_any x w hx
 have HB:Hid (((bt (r % 16)).toNat:Int)=((sx (r % 16):Nat):Int)∧((bt (g % 16)).toNat:Int)=((sx (g % 16):Nat):Int)∧((bt (b % 16)).toNat:Int)=((sx (b % 16):Nat):Int)):=⟨bt_nat (Nat.mod_lt _ (by decide)),bt_nat (Nat.mod_lt _ (by decide)),bt_nat (Nat.mod_lt _ (by decide))⟩
 obtain ⟨i0,hi,hz0,hz1,hz2⟩:=info_parts8 info_u8
 go_enter Tryz.func100,Tryz.ntmps100
 go_wp2_with (go_at_call 134;refine (hT.out _ _ (by assumption)).mono ?_;rintro e w' ⟨rfl,rfl⟩)
 have A:=AtC.new w r g b 255 38
 have L:Below w.heap.size w (w.alloc (.cells #[.int .u8 r,.int .u8 g,.int .u8 b,.int .u8 255] 38)):=(Below.refl _ w).alloc (Nat.le_refl _) _
 have sz:(w.alloc (.cells #[.int .u8 r,.int .u8 g,.int .u8 b,.int .u8 255] 38)).heap.size=w.heap.size+1:=by simp
 generalize hX0:w.alloc (.cells #[.int .u8 r,.int .u8 g,.int .u8 b,.int .u8 255] 38)=X0 at *
 have R0:=World.ownsRow_lit (base:=X0.heap.size) (e:=5) (size:=1) X0 #[.int .u8 35] 1 (Nat.le_refl _) (by decide) rfl
 have Z0:Below X0.heap.size X0 (X0.alloc (.cells #[.int .u8 35] 5)):=(Below.refl _ _).alloc (Nat.le_refl _) _
 rw [sz] at R0
 generalize hW0:X0.alloc (.cells #[.int .u8 35] 5)=W0 at *
 have HW:Hid (AtC X0 w.heap.size ⟨r,g,b,255⟩∧Below w.heap.size w X0∧Below X0.heap.size X0 W0∧W0.ownsRow (w.heap.size+1) 5 1 (.slice (some ⟨w.heap.size+1,0,none⟩) 1 1) 1 [.int .u8 35]∧X0.heap.size=w.heap.size+1):=⟨A,L,Z0,R0,sz⟩
 clear A L Z0 R0 hX0 hW0 sz
 refine R3.wp_region_lit 10 1 3 (fun _ b=>.slice (some ⟨b,0,none⟩) 3 3) (fun _=>.cells #[.int .u8 (sx (r % 16):Nat),.int .u8 (sx (g % 16):Nat),.int .u8 (sx (b % 16):Nat)] 5) [33] (by kernel_rfl) (by kernel_rfl) rfl ?_ rfl ?_
 ·intro k hk
  have hc:k=0:=by omega
  subst hc;rfl
 apply Exists.intro
 refine ⟨fun bs ne=>?_,?_,?_⟩
 ·obtain ⟨A,L,Z,_⟩:=HW.out
  have d0:=fun t:Gb W0 bs=>(A.below (Z.trans (t.below.mono Z.size))).1
  have d1:=fun t:Gb W0 bs=>(A.below (Z.trans (t.below.mono Z.size))).2.1
  have d2:=fun t:Gb W0 bs=>(A.below (Z.trans (t.below.mono Z.size))).2.2.1
  clear A L Z
  simp only [List.take_succ_cons,List.take_zero]
  repeat (go_big_quiet_step (first
   | (go_at_call 135;exact gb_same (hL.out _ _ (by assumption)))))
  exact wpQuiet_nil rfl
 ·intro i h1 h2
  have hc:i=10:=by omega
  subst hc
  exact ⟨_,rfl,rfl,fun _=>by kernel_rfl⟩
 intro bl wr0 hbl hlo _
 obtain ⟨q1,q2⟩:=hlo 10 (by omega) (by omega)
 simp only [R3.layL]
 generalize bl 10=g0 at *
 clear hlo
 obtain ⟨c1,_,_⟩:=heap_cells q2
 refine wpAny_one 11 (by kernel_rfl) rfl ?_
 intro K hK
 obtain ⟨A,L,Z,R,sz⟩:=HW.out
 replace R:=own_below R hbl
 replace Z:=Z.trans (hbl.mono Z.size)
 have zs:w.heap.size+1≤wr0.heap.size:=by rw [← sz];exact Z.size
 refine step_append_lies wr0 (by rfl) _ _ 77 (by rfl) (w.heap.size+1) 5 i0 (.int .u8 0) 1 1 Tryz.underlying77 hi hz0 hz1 hz2 rfl (by decide) (.slice (some ⟨w.heap.size+1,0,none⟩) 1 1) 1 [.int .u8 35] (by rfl) R ⟨g0,0,none⟩ 3 3 [.int .u8 (sx (r % 16):Nat),.int .u8 (sx (g % 16):Nat),.int .u8 (sx (b % 16):Nat)] (by rfl) rfl ?_ ?_ (by decide) (by decide) (by decide) zs wr0.heap.size rfl ?_
 ·intro j u hj
  rw [add_at g0 j,c1 j]
  simpa using hj
 ·intro u hu
  simp at hu
  rcases hu with rfl | rfl | rfl <;> rfl
 intro h0 cap0 X1 hown hgrow _ _
 have L1:Below w.heap.size w X1:=by
  have h2:=Z.grown hgrow Z.size (fun b hb=>by have:=(R.lt b hb).1;omega)
  exact L.trans (h2.mono L.size)
 have hcv:=conv_own [35,bt (r % 16),bt (g % 16),bt (b % 16)] hown rfl (fun j hj=>by
  simp only [List.length_cons,List.length_nil] at hj
  obtain ⟨e1,e2,e3⟩:=HB.out
  have hc:j=0∨j=1∨j=2∨j=3:=by omega
  rcases hc with rfl | rfl | rfl | rfl
  ·rfl
  ·simp [e1]
  ·simp [e2]
  ·simp [e3])
 have HL:Hid (Below w.heap.size w X1):=L1
 clear A L Z R sz zs hown hgrow c1 q1 q2 hbl L1
 refine hK _ _ ?_
 clear hK K
 refine wpAny_one 12 (by kernel_rfl) rfl ?_
 intro K hK
 go_simp
 refine hK _ _ ?_
 clear hK K
 refine wpAny_one 13 (by kernel_rfl) rfl ?_
 intro K hK
 go_simp
 refine hK _ _ ?_
 clear hK K
 refine wpAny_done (by kernel_rfl) ?_ _
 go_wp2
 go_ret
 exact ⟨rfl,HL.out⟩
end Go.Proofs.YtapachlhdgehjaaGreatDoor
