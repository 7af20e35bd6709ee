/-
  Texts of this claim, one behind the other: what each is about stands ahead of it.
-/
import Derived.Test.YtapachlhdgehjaaGreatDoorK32
import Derived.Test.YtapachlhdgehjaaGreatDoorK31
import Derived.Lib.BufferRead
import Derived.BigQuiet
import Derived.OwnWalk
import Derived.Test.YtapachlhdgehjaaGreatDoorK0
import Derived.Test.YtapachlhdgehjaaGreatDoorK33
import Derived.Shelf.LaysM
import Derived.Shelf.LaysC
import Derived.Shelf.Strings.Prefix
import Derived.Shelf.Strings.Cut
import Derived.Shelf.Strings.Shaped
import Derived.Shelf.Strconv.AtoiAll
import Derived.Shelf.Strconv.Itoa3
import Derived.Test.YtapachlhdgehjaaGreatDoorProg
/- Contracts of package vector: firstByte, Plain. -/
namespace Go.Proofs.YtapachlhdgehjaaGreatDoor
open Go.RowKit
def hexL:List UInt8:=[48,49,50,51,52,53,54,55,56,57,97,98,99,100,101,102]
def sxI (c:Nat):Int:=Lib.indexByte hexL c.toUInt8
theorem sxI_fin:∀ c:Fin 256,-1≤sxI c.val∧sxI c.val≤15:=by decide +kernel
theorem sxI_bd {c:Nat} (h:c<256) : -1≤sxI c∧sxI c≤15:=sxI_fin ⟨c,h⟩
def byA (s:ByteArray) (p:Nat):Nat:=if h:p<s.size then (s[p]).toNat else 0
theorem byA_at {s:ByteArray} {p:Nat} (h:p<s.size):byA s p=(s[p]).toNat:=by unfold byA;rw [dif_pos h]
theorem byA_lt (s:ByteArray) (p:Nat):byA s p<256:=by
 unfold byA
 split
 ·exact UInt8.toNat_lt _
 ·decide
theorem byA_ext (s:ByteArray) (p q:Nat) (h:p≤s.size):byA (s.extract p s.size) q=byA s (p+q):=by
 by_cases hq:p+q<s.size
 ·have h':q<(s.extract p s.size).size:=by simp;omega
  rw [byA_at hq,byA_at h']
  congr 1
  exact ByteArray.getElem_extract h'
 ·have h':¬ q<(s.extract p s.size).size:=by simp;omega
  unfold byA
  rw [dif_neg hq,dif_neg h']
def fsP (s:ByteArray) (p:Nat):Nat × Nat :=
 if s.size≤p then (0,0) else if stD (byA s p)=true then (byA s p,1)
 else if s.size<p+4∨byA s p≠38∨byA s (p+3)≠59∨sxI (byA s (p+1))<0∨sxI (byA s (p+2))<0 then (0,0)
 else if stD (16 * (sxI (byA s (p+1))).toNat+(sxI (byA s (p+2))).toNat)=true then (0,0)
 else (16 * (sxI (byA s (p+1))).toNat+(sxI (byA s (p+2))).toNat,4)
theorem fsP_ext (s:ByteArray) (p:Nat) (h:p≤s.size):fsP (s.extract p s.size) 0=fsP s p:=by
 have hz:(s.extract p s.size).size=s.size - p:=by simp
 have a1:((s.extract p s.size).size≤0)=(s.size≤p):=by rw [hz];exact propext ⟨fun h=>by omega,fun h=>by omega⟩
 have a2:((s.extract p s.size).size<0+4)=(s.size<p+4):=by rw [hz];exact propext ⟨fun h=>by omega,fun h=>by omega⟩
 unfold fsP
 simp only [a1,a2,byA_ext s p _ h,Nat.zero_add,Nat.add_zero]
theorem fsP_bd (s:ByteArray) (p:Nat):(fsP s p).1<256∧(fsP s p).2≤4∧((fsP s p).2≠0→p+(fsP s p).2≤s.size):=by
 have b1:=sxI_bd (byA_lt s (p+1))
 have b2:=sxI_bd (byA_lt s (p+2))
 have b3:=byA_lt s p
 unfold fsP
 split
 ·exact ⟨by decide,by decide,fun h=>absurd rfl h⟩
 ·split
  ·exact ⟨b3,by omega,fun _=>by omega⟩
  ·split
   ·exact ⟨by decide,by decide,fun h=>absurd rfl h⟩
   ·split
    ·exact ⟨by decide,by decide,fun h=>absurd rfl h⟩
    ·exact ⟨by show 16 * _+_<256;omega,by omega,fun _=>by omega⟩
theorem bdrw (w:World):∀ n,Below w.heap.size w (w.drewN n)
 | 0=>Below.refl _ _
 | n+1=>(bdrw w n).drew
theorem or_sx:∀ h k:Fin 16,bits .or .i64 ((h.val:Int) * 16) (k.val:Int)=(16 * h.val+k.val:Nat):=by decide +kernel
set_option maxRecDepth 10000 in
set_option maxHeartbeats 4000000 in
theorem fsb_any (s:ByteArray) (w:World) (h0:0<s.size) (hs:s.size≤9223372036854775807) :
  Calls Tryz.prog 180 #[.string s] w fun e w'=>e = .returned (.tuple #[.int .u8 (fsP s 0).1,.int .i64 (fsP s 0).2])∧Below w.heap.size w w':=by
 have HS:Hid (∀ (k:Nat) W,k<256→Calls Tryz.prog 137 #[.int .u8 k] W fun e w'=>e = .returned (.bool (stD k))∧w'=W):=fun k W hk=>stands_any k W hk
 have HI:Hid (∀ (c:Nat) W,Calls Tryz.prog 194 #[.string ⟨#[48,49,50,51,52,53,54,55,56,57,97,98,99,100,101,102]⟩,.int .u8 c] W fun e w'=>e = .returned (.int .i64 (sxI c))∧w'=W):=fun c W=>Any.strings_IndexByte Tryz.lays137 ⟨#[48,49,50,51,52,53,54,55,56,57,97,98,99,100,101,102]⟩ (c:Int) W
 obtain ⟨F,hF⟩:∃ F,F=fsP s 0:=⟨_,rfl⟩
 have HF:Hid (F=fsP s 0):=hF
 rw [← hF]
 clear hF
 have hb0:=UInt8.toNat_lt s[0]
 have h0':(0:Int)<s.size:=by omega
 cases hst:stD (s[0]).toNat with
 | true =>
  have e:F=((s[0]).toNat,1):=by
   rw [HF.out]
   unfold fsP
   rw [if_neg (by omega),byA_at h0,if_pos hst]
  rw [e]
  clear HF e
  go_enter Tryz.func180,Tryz.ntmps180
  go_wp2_with (go_at_call 137;refine (HS.out _ _ (by assumption)).mono ?_;rintro e w' ⟨rfl,hw⟩;obtain rfl:=hw.symm)
  go_ret2
  exact ⟨rfl,by first | exact Below.refl _ _ | exact bdrw w _⟩
 | false =>
  have e:F=if s.size<4∨(s[0]).toNat≠38∨byA s 3≠59∨sxI (byA s 1)<0∨sxI (byA s 2)<0 then (0,0) else if stD (16 * (sxI (byA s 1)).toNat+(sxI (byA s 2)).toNat)=true then (0,0) else (16 * (sxI (byA s 1)).toNat+(sxI (byA s 2)).toNat,4):=by
   rw [HF.out]
   unfold fsP
   rw [if_neg (by omega),byA_at h0,if_neg (by simp [hst])]
  have HE:=show Hid _ from e
  clear HF e
  by_cases h4:s.size<4
  ·have h4':(s.size:Int)<4:=by omega
   obtain rfl:F=(0,0):=by rw [HE.out,if_pos (.inl h4)]
   go_enter Tryz.func180,Tryz.ntmps180
   go_wp2_with (go_at_call 137;refine (HS.out _ _ (by assumption)).mono ?_;rintro e w' ⟨rfl,hw⟩;obtain rfl:=hw.symm)
   go_ret2
   exact ⟨rfl,by first | exact Below.refl _ _ | exact bdrw w _⟩
  have h4':¬ ((s.size:Int)<4):=by omega
  have d4:decide ((s.size:Int)<4)=false:=decide_eq_false h4'
  have h3':(3:Int)<s.size:=by omega
  have h2':(2:Int)<s.size:=by omega
  have h1':(1:Int)<s.size:=by omega
  have h3:3<s.size:=by omega
  have h2:2<s.size:=by omega
  have h1:1<s.size:=by omega
  rw [byA_at h3,byA_at h2,byA_at h1] at HE
  have hb1:=UInt8.toNat_lt s[1]
  have hb2:=UInt8.toNat_lt s[2]
  by_cases h38:¬ (s[0]).toNat=38
  ·have g38:(((s[0]).toNat:Int)==38)=false:=by rw [beq_eq_false_iff_ne];omega
   obtain rfl:F=(0,0):=by rw [HE.out,if_pos (.inr (.inl h38))]
   go_enter Tryz.func180,Tryz.ntmps180
   go_wp2_with (go_at_call 137;refine (HS.out _ _ (by assumption)).mono ?_;rintro e w' ⟨rfl,hw⟩;obtain rfl:=hw.symm)
   go_ret2
   exact ⟨rfl,by first | exact Below.refl _ _ | exact bdrw w _⟩
  have g38:((s[0]).toNat:Int)=38:=by omega
  have H38:Hid (∀ W,Calls Tryz.prog 137 #[.int .u8 38] W fun e w'=>e = .returned (.bool false)∧w'=W):=fun W=>HS.out 38 W (by decide)
  clear hst
  have h38':(s[0]).toNat=38:=by omega
  by_cases h59:¬ (s[3]).toNat=59
  ·have g59:(((s[3]).toNat:Int) != 59)=true:=by rw [bne_iff_ne];omega
   obtain rfl:F=(0,0):=by rw [HE.out,if_pos (.inr (.inr (.inl h59)))]
   go_enter Tryz.func180,Tryz.ntmps180
   go_wp2_with (go_at_call 137;refine (H38.out _).mono ?_;rintro e w' ⟨rfl,hw⟩;obtain rfl:=hw.symm)
   go_ret2
   exact ⟨rfl,by first | exact Below.refl _ _ | exact bdrw w _⟩
  have g59:((s[3]).toNat:Int)=59:=by omega
  have h59':(s[3]).toNat=59:=by omega
  have bd1:=sxI_bd hb1
  have bd2:=sxI_bd hb2
  by_cases hA0:sxI (s[1]).toNat<0
  ·obtain rfl:F=(0,0):=by rw [HE.out,if_pos (.inr (.inr (.inr (.inl hA0))))]
   go_enter Tryz.func180,Tryz.ntmps180
   go_wp2_with (go_at_call 137;refine (H38.out _).mono ?_;rintro e w' ⟨rfl,hw⟩;obtain rfl:=hw.symm)
   go_quiet (first | (go_at_call 194;exact Calls.quiet_of_same (HI.out _ _)))
   go_wp2
   go_ret2
   exact ⟨rfl,by first | exact Below.refl _ _ | exact bdrw w _⟩
  by_cases hB0:sxI (s[2]).toNat<0
  ·obtain rfl:F=(0,0):=by rw [HE.out,if_pos (.inr (.inr (.inr (.inr hB0))))]
   go_enter Tryz.func180,Tryz.ntmps180
   go_wp2_with (go_at_call 137;refine (H38.out _).mono ?_;rintro e w' ⟨rfl,hw⟩;obtain rfl:=hw.symm)
   go_quiet (first | (go_at_call 194;exact Calls.quiet_of_same (HI.out _ _)))
   go_wp2
   go_ret2
   exact ⟨rfl,by first | exact Below.refl _ _ | exact bdrw w _⟩
  obtain ⟨A,hA⟩:∃ A:Nat,sxI (s[1]).toNat=A:=⟨(sxI (s[1]).toNat).toNat,(Int.toNat_of_nonneg (by omega)).symm⟩
  obtain ⟨B,hB⟩:∃ B:Nat,sxI (s[2]).toNat=B:=⟨(sxI (s[2]).toNat).toNat,(Int.toNat_of_nonneg (by omega)).symm⟩
  rw [hA,hB] at HE
  rw [hA] at bd1
  rw [hB] at bd2
  have hA16:A<16:=by omega
  have hB16:B<16:=by omega
  have hor:=or_sx ⟨A,hA16⟩ ⟨B,hB16⟩
  simp only at hor
  have hn1:¬ ((A:Int)<0):=by omega
  have hn2:¬ ((B:Int)<0):=by omega
  have HV:Hid (∀ W,Calls Tryz.prog 137 #[.int .u8 (16 * (A:Int)+(B:Int))] W fun e w'=>e = .returned (.bool (stD (16 * A+B)))∧w'=W):=fun W=>by
   rw [show 16 * (A:Int)+(B:Int)=((16 * A+B:Nat):Int) by omega]
   exact HS.out _ W (by omega)
  have HE2:Hid (F=if stD (16 * A+B)=true then (0,0) else (16 * A+B,4)):=by
   unfold Hid
   have:=HE.out
   rw [if_neg (by simp [h38',h59'];omega)] at this
   simpa using this
  clear HE HS
  cases hv:stD (16 * A+B) with
  | true =>
   rw [hv] at HV
   obtain rfl:F=(0,0):=by rw [HE2.out,if_pos hv]
   clear HE2 hv
   go_enter Tryz.func180,Tryz.ntmps180
   go_wp2_with (go_at_call 137;refine (H38.out _).mono ?_;rintro e w' ⟨rfl,hw⟩;obtain rfl:=hw.symm)
   go_quiet (first | (go_at_call 194;exact Calls.quiet_of_same (HI.out _ _)))
   simp only [hA,hB]
   go_wp2_with (go_at_call 137;refine (HV.out _).mono ?_;rintro e w' ⟨rfl,hw⟩;obtain rfl:=hw.symm)
   go_ret2
   exact ⟨rfl,bdrw w _⟩
  | false =>
   rw [hv] at HV
   obtain rfl:F=(16 * A+B,4):=by rw [HE2.out,if_neg (by simp [hv])]
   clear HE2 hv
   go_enter Tryz.func180,Tryz.ntmps180
   go_wp2_with (go_at_call 137;refine (H38.out _).mono ?_;rintro e w' ⟨rfl,hw⟩;obtain rfl:=hw.symm)
   go_quiet (first | (go_at_call 194;exact Calls.quiet_of_same (HI.out _ _)))
   simp only [hA,hB]
   go_wp2_with (go_at_call 137;refine (HV.out _).mono ?_;rintro e w' ⟨rfl,hw⟩;obtain rfl:=hw.symm)
   go_ret2
   exact ⟨by simp,bdrw w _⟩
end Go.Proofs.YtapachlhdgehjaaGreatDoor

/- Contracts of package vector: Plain. -/
namespace Go.Proofs.YtapachlhdgehjaaGreatDoor
open Go.RowKit
def vpF (s:ByteArray):Nat→Nat→List UInt8→List UInt8 × Nat × Int
 | 0,_,acc=>(acc,0,0)
 | f+1,p,acc=>if s.size≤p then (acc,0,0) else if (fsP s p).2=0 then ([],p,160) else vpF s f (p+(fsP s p).2) (acc++[UInt8.ofNat (fsP s p).1])
def vpA (s:ByteArray):List UInt8 × Nat × Int:=vpF s (s.size+1) 0 []
theorem vpF_step {s:ByteArray} {f p:Nat} {acc:List UInt8} (h:p<s.size):((fsP s p).2=0→vpF s (f+1) p acc=([],p,160))∧((fsP s p).2≠0→vpF s (f+1) p acc=vpF s f (p+(fsP s p).2) (acc++[UInt8.ofNat (fsP s p).1])):=by
 exact ⟨fun h0=>by rw [vpF,if_neg (by omega),if_pos h0],fun h0=>by rw [vpF,if_neg (by omega),if_neg h0]⟩
theorem vpF_end {s:ByteArray} {f p:Nat} {acc:List UInt8} (h:s.size≤p):vpF s f p acc=(acc,0,0):=by
 cases f with
 | zero=>rfl
 | succ f=>rw [vpF,if_pos h]
structure VpW (w:World) (s:ByteArray) (p:Nat) (u:Value) (acc:List UInt8) (f:Nat) (wr:World):Prop where
 ow:OwY w.heap.size wr u acc
 bl:Below w.heap.size w wr
 eq:vpA s=vpF s f p acc
 fu:s.size<f+p
 ln:acc.length≤p
set_option maxRecDepth 10000 in
set_option maxHeartbeats 4000000 in
theorem vplain_any (s:ByteArray) (w:World) (hs:s.size≤140000000000000) :
  Calls Tryz.prog 168 #[.string s] w fun e w'=>e = .returned (.tuple #[.string ⟨(vpA s).1.toArray⟩,.int .i64 ((vpA s).2.1:Nat),.int .i64 (vpA s).2.2])∧Below w.heap.size w w':=by
 have H0:Hid (VpW w s 0 (.slice none 0 0) [] (s.size+1) w):=⟨OwY.nil _ _,Below.refl _ _,rfl,by omega,Nat.le_refl _⟩
 have HFb:Hid (∀ (q:ByteArray) W,0<q.size→q.size≤9223372036854775807→Calls Tryz.prog 180 #[.string q] W fun e w'=>e = .returned (.tuple #[.int .u8 (fsP q 0).1,.int .i64 (fsP q 0).2])∧Below W.heap.size W w'):=fun q W h1 h2=>fsb_any q W h1 h2
 obtain ⟨R,hR⟩:∃ R,R=vpA s:=⟨_,rfl⟩
 have HR:Hid (R=vpA s):=hR
 rw [← hR]
 clear hR
 go_enter Tryz.func168,Tryz.ntmps168
 go_wp2_with fail
 go_loopw [5,6] (fun u0 i wr=>∃ (u:Value) (k f:Nat) (acc:List UInt8),u=u0∧k≤s.size∧i = .int .i64 k∧Hid (VpW w s k u acc f wr)) (fun _ i _=>s.size - (intOf i).toNat)
 case atStart=>exact ⟨_,0,_,[],rfl,Nat.zero_le _,rfl,H0⟩
 case round =>
  obtain ⟨u,k,f,acc,rfl,hk,rfl,HW⟩:=hrel
  clear H0
  by_cases hlt:k<s.size
  ·have hz:(s.extract k s.size).size=s.size - k:=by simp
   have HQ:Hid (∀ W,Calls Tryz.prog 180 #[.string (s.extract k s.size)] W fun e w'=>e = .returned (.tuple #[.int .u8 (fsP s k).1,.int .i64 (fsP s k).2])∧Below W.heap.size W w'):=fun W=>by
    have:=HFb.out (s.extract k s.size) W (by omega) (by omega)
    rw [fsP_ext s k (by omega)] at this
    exact this
   obtain ⟨bd1,bd2,bd3⟩:=fsP_bd s k
   have hst:((fsP s k).2=0→R=([],k,160))∧((fsP s k).2≠0→∃ f',vpA s=vpF s f' (k+(fsP s k).2) (acc++[UInt8.ofNat (fsP s k).1])∧s.size<f'+(k+(fsP s k).2)):=by
    have hf:=HW.out.fu
    have he:=HW.out.eq
    obtain ⟨f',rfl⟩:∃ f',f=f'+1:=by
     cases f with
     | zero=>omega
     | succ f=>exact ⟨f,rfl⟩
    obtain ⟨a1,a2⟩:=vpF_step (f:=f') (acc:=acc) hlt
    refine ⟨fun h=>by rw [HR.out,he,a1 h],fun h=>⟨f',by rw [he,a2 h],by omega⟩⟩
   have HO:Hid (OwY w.heap.size wr u acc∧Below w.heap.size w wr∧acc.length≤k):=⟨HW.out.ow,HW.out.bl,HW.out.ln⟩
   clear HW HFb hz
   generalize (fsP s k).1=b at *
   generalize (fsP s k).2=n at *
   by_cases hn:n=0
   ·subst hn
    obtain rfl:=hst.1 rfl
    clear hst bd3
    go_wp2_with fail
    refine (HQ.out _).mono ?_
    rintro e w1 ⟨rfl,hb⟩
    have H1:Hid (Below w.heap.size w w1):=HO.out.2.1.trans (hb.mono HO.out.2.1.size)
    clear hb HO HQ
    go_wp2
    go_ret3
    exact ⟨rfl,H1.out⟩
   ·obtain ⟨f',e1,e2⟩:=hst.2 hn
    have hkn:=bd3 hn
    have hn':((n:Int)==0)=false:=by rw [beq_eq_false_iff_ne];omega
    have HE:Hid (vpA s=vpF s f' (k+n) (acc++[UInt8.ofNat b])∧s.size<f'+(k+n)):=⟨e1,e2⟩
    clear hst e1 e2 bd3
    go_wp2_with fail
    refine (HQ.out _).mono ?_
    rintro e w1 ⟨rfl,hb⟩
    have HA:Hid (OwY w.heap.size (w1.alloc (.cells #[.int .u8 b] 5)) u acc∧Below w.heap.size w (w1.alloc (.cells #[.int .u8 b] 5))∧acc.length≤k∧w.heap.size≤(w1.alloc (.cells #[.int .u8 b] 5)).heap.size):=by
     obtain ⟨q1,q2,q3⟩:=HO.out
     have b2:=hb.alloc (Nat.le_refl _ |> fun h=>Nat.le_trans h hb.size) (.cells #[.int .u8 b] 5)
     have b3:=q2.trans (b2.mono q2.size)
     exact ⟨q1.below b2,b3,q3,b3.size⟩
    clear hb HO HQ
    go_wp2_with (at_builtin;refine app_lit rfl _ _ rfl w.heap.size u acc [UInt8.ofNat b] rfl HA.out.1 w1.heap.size _ 1 1 #[.int .u8 b] 5 rfl rfl (alc_new _ _) (by simp [Lib.byteCells];omega) HA.out.2.2.2 (by have:=HA.out.2.2.1;simp;omega) rfl ?_)
    intro v1 w2 h1 h2
    have HF:Hid (VpW w s (k+n) v1 (acc++[UInt8.ofNat b]) f' w2):=⟨by unfold OwY;rw [List.length_append];exact h1,HA.out.2.1.trans h2.b,HE.out.1,HE.out.2,by have:=HA.out.2.2.1;simp;omega⟩
    clear h1 h2 HA HE
    go_wp2
    go_roundw
    case rel=>exact ⟨v1,k+n,f',_,rfl,by omega,by go_num,HF⟩
    case measure=>simp [intOf];omega
  ·obtain rfl:k=s.size:=by omega
   have hE:R=(acc,0,0):=by rw [HR.out,HW.out.eq,vpF_end (Nat.le_refl _)]
   subst hE
   have hcv:=conv_bytes HW.out.ow
   have H1:Hid (Below w.heap.size w wr):=HW.out.bl
   clear HW HR
   go_wp2
   go_ret3
   exact ⟨rfl,H1.out⟩
end Go.Proofs.YtapachlhdgehjaaGreatDoor

/- The reader of shapes in memory: what a call leaves but for two blocks; a wrong piece as an error. -/
namespace Go.Proofs.YtapachlhdgehjaaGreatDoor
open Go.RowKit
structure Kp2 (b c:Nat) (w w':World):Prop where
 os:w'.os=w.os
 tape:w'.tape=w.tape
 output:w'.output=w.output
 size:w.heap.size≤w'.heap.size
 block:∀ k,k<w.heap.size→k≠b→k≠c→w'.heap[k]? = w.heap[k]?
theorem Kp2.refl (b c:Nat) (w:World):Kp2 b c w w:=⟨rfl,rfl,rfl,Nat.le_refl _,fun _ _ _ _=>rfl⟩
theorem Kp2.of_below {b c:Nat} {w w':World} (h:Below w.heap.size w w'):Kp2 b c w w':=⟨h.os,h.tape,h.output,h.size,fun k hk _ _=>h.block k hk⟩
theorem Kp2.trans {b c:Nat} {u v w:World} (h:Kp2 b c u v) (k:Kp2 b c v w):Kp2 b c u w :=
 ⟨k.os.trans h.os,k.tape.trans h.tape,k.output.trans h.output,Nat.le_trans h.size k.size,fun i hi h1 h2=>(k.block i (Nat.lt_of_lt_of_le hi h.size) h1 h2).trans (h.block i hi h1 h2)⟩
theorem Kp2.put (w:World) (b c o:Nat) (v:Value):Kp2 b c w (w.setCell ⟨b,o,none⟩ v) :=
 ⟨rfl,rfl,rfl,((Below.refl 0 w).setCell (p:=⟨b,o,none⟩) (Nat.zero_le _) v).size,fun k _ hk _=>Below.heap_setCell _ _ _ k (fun e=>hk (by rw [e]))⟩
theorem Kp2.put2 (w:World) (b c o:Nat) (v:Value):Kp2 b c w (w.setCell ⟨c,o,none⟩ v) :=
 ⟨rfl,rfl,rfl,((Below.refl 0 w).setCell (p:=⟨c,o,none⟩) (Nat.zero_le _) v).size,fun k _ _ hk=>Below.heap_setCell _ _ _ k (fun e=>hk (by rw [e]))⟩
theorem Kp2.swap {b c:Nat} {w w':World} (h:Kp2 b c w w'):Kp2 c b w w':=⟨h.os,h.tape,h.output,h.size,fun k hk h1 h2=>h.block k hk h2 h1⟩
theorem Kp2.one {b c:Nat} {w w':World} (h:Kp2 b b w w'):Kp2 b c w w':=⟨h.os,h.tape,h.output,h.size,fun k hk h1 _=>h.block k hk h1 h1⟩
theorem Kp2.far {b c d:Nat} {w w':World} (h:Kp2 b c w w') (hc:w.heap.size≤c):Kp2 b d w w':=⟨h.os,h.tape,h.output,h.size,fun k hk h1 _=>h.block k hk h1 (by omega)⟩
theorem Kp2.bk {b c:Nat} {w w':World} (h:Kp2 b c w w') {g:Nat} {vs:Array Value} {t:TypeId} (hg:Bk w g vs t) (h1:g≠b) (h2:g≠c):Bk w' g vs t:=(h.block g hg.lt h1 h2).trans hg
theorem Kp2.below {b c B:Nat} {w w':World} (h:Kp2 b c w w') (hB:B≤w.heap.size) (h1:B≤b) (h2:B≤c):Below B w w':=⟨h.os,h.tape,h.output,h.size,fun k hk=>h.block k (by omega) (by omega) (by omega)⟩
theorem Kp2.fresh {b c g:Nat} {w w1 w2:World} (h:Kp2 b c w w1) (k:Kp2 b g w1 w2) (hg:w.heap.size≤g):Kp2 b c w w2 :=
 ⟨k.os.trans h.os,k.tape.trans h.tape,k.output.trans h.output,Nat.le_trans h.size k.size,fun i hi h1 h2=>(k.block i (Nat.lt_of_lt_of_le hi h.size) h1 (by omega)).trans (h.block i hi h1 h2)⟩
def Rd (w:World) (b:Nat) (s:ByteArray) (p:Nat):Prop:=Bk w b #[.string s,.int .i64 p] 118
theorem Rd.below {w w':World} {b:Nat} {s:ByteArray} {p:Nat} (h:Rd w b s p) (hb:Below w.heap.size w w'):Rd w' b s p:=Bk.below h hb
theorem Rd.put {w:World} {b:Nat} {s:ByteArray} {p q:Nat} (h:Rd w b s p):Rd (w.setCell ⟨b,1,none⟩ (.int .i64 q)) b s q:=Bk.put h 1 (.int .i64 q)
def IsW (lo:Nat) (w:World) (e:Value) (at_:Nat):Prop:=∃ g f must,e = .iface 163 (.pointer (some ⟨g,0,none⟩))∧lo≤g∧lo≤f∧Bk w g #[.string must,.pointer (some ⟨f,0,none⟩)] 165∧Bk w f #[.int .i64 160,.int .i64 at_] 84
theorem IsW.weaken {lo lo2:Nat} {w:World} {e:Value} {p:Nat} (h:IsW lo w e p) (hl:lo2≤lo):IsW lo2 w e p:=by
 obtain ⟨g,f,m,h1,h2,h3,h4,h5⟩:=h
 exact ⟨g,f,m,h1,Nat.le_trans hl h2,Nat.le_trans hl h3,h4,h5⟩
theorem IsW.keep {lo b c:Nat} {w w':World} {e:Value} {p:Nat} (h:IsW lo w e p) (k:Kp2 b c w w') (hb:b<lo) (hc:c<lo):IsW lo w' e p:=by
 obtain ⟨g,f,m,h1,h2,h3,h4,h5⟩:=h
 exact ⟨g,f,m,h1,h2,h3,k.bk h4 (by omega) (by omega),k.bk h5 (by omega) (by omega)⟩
set_option maxRecDepth 10000 in
set_option maxHeartbeats 2000000 in
theorem refuse_any (b:Nat) (s:ByteArray) (p o:Nat) (must:ByteArray) (w:World) (h:Rd w b s p) (hp:p≤1000000000) (ho:o≤1000000000) :
  Calls Tryz.prog 70 #[.pointer (some ⟨b,0,none⟩),.int .i64 o,.string must] w fun e w'=>∃ v,e = .returned v∧IsW w.heap.size w' v (p+o)∧Below w.heap.size w w':=by
 have c0:=Bk.cell h 0
 have c1:=Bk.cell h 1
 simp only [List.getElem?_toArray,List.getElem?_cons_zero,List.getElem?_cons_succ] at c0 c1
 clear h
 have HF:Hid (∀ W,W=(w.alloc (.cells #[.int .i64 160,.int .i64 ((p:Int)+o)] 84)).alloc (.cells #[.string must,.pointer (some ⟨w.heap.size,0,none⟩)] 165)→IsW w.heap.size W (.iface 163 (.pointer (some ⟨w.heap.size+1,0,none⟩))) (p+o)∧Below w.heap.size w W):=fun W hW=>by
  have b1:Below w.heap.size w (w.alloc (.cells #[.int .i64 160,.int .i64 ((p:Int)+o)] 84)):=(Below.refl _ w).alloc (Nat.le_refl _) _
  have e:(w.alloc (.cells #[.int .i64 160,.int .i64 ((p:Int)+o)] 84)).heap.size=w.heap.size+1:=by simp
  subst hW
  refine ⟨⟨w.heap.size+1,w.heap.size,must,rfl,by omega,Nat.le_refl _,?_,?_⟩,b1.alloc b1.size _⟩
  ·have:=Bk.new (w.alloc (.cells #[.int .i64 160,.int .i64 ((p:Int)+o)] 84)) #[.string must,.pointer (some ⟨w.heap.size,0,none⟩)] 165
   rw [e] at this
   exact this
  ·have:=(Bk.new w #[.int .i64 160,.int .i64 ((p:Int)+o)] 84).below ((Below.refl _ (w.alloc (.cells #[.int .i64 160,.int .i64 ((p:Int)+o)] 84))).alloc (Nat.le_refl _) (.cells #[.string must,.pointer (some ⟨w.heap.size,0,none⟩)] 165))
   rw [show (((p+o:Nat)):Int)=(p:Int)+o by omega]
   exact this
 go_enter Tryz.func70,Tryz.ntmps70
 go_wp2
 go_ret
 exact ⟨_,rfl,HF.out _ (by simp)⟩
end Go.Proofs.YtapachlhdgehjaaGreatDoor

/- DERIVED: THE SHELF's CONTRACTS AT THIS DUMP, IN PLAIN WORDS (tools/lay-plain.mjs out of 'YtapachlhdgehjaaGreatDoorBS2.lean', which tools/lay-shelf.mjs wrote): THE SAME DECLARATIONS UNDER THE SAME NAMES: 'import', 'namespace', 'open', 'def', 'theorem' AND NOTHING ELSE: no command of the shelf's: FOR A HAND-IN. Each laying: the table of numbers ('.._ren') and one theorem, a field a fact of the dump's own or the kernel's comparison; each contract: ONE APPLICATION. -/
namespace Go.Proofs
open Go.Shelf
def Tryz.lays99_ren:Go.Shelf.Ren:=⟨fun | 99=>104 | 206=>143 | n=>n,fun | 9=>9 | 4=>4 | 3=>3 | n=>n,fun | n=>n⟩
theorem Tryz.lays99:Go.Proofs.Lays.n99 Tryz.prog Tryz.lays99_ren:={
 mixed:=by kernel_rfl
 f99:=Tryz.func104.trans (congrArg some (by kernel_rfl))
 f206:=Tryz.func143.trans (congrArg some (by kernel_rfl))
 t3:=Tryz.underlying3
 a3:=Tryz.isAgg3
 z3:=Tryz.sizeOf3
 v3:=Tryz.zeroValue3
 t4:=Tryz.underlying4
 a4:=Tryz.isAgg4
 z4:=Tryz.sizeOf4
 v4:=Tryz.zeroValue4
 t9:=Tryz.underlying9
 a9:=Tryz.isAgg9
 z9:=Tryz.sizeOf9
 v9:=Tryz.zeroValue9 }
def Tryz.laysM145_ren:Go.Shelf.Ren:=⟨fun | 145=>97 | 220=>130 | 219=>162 | 217=>171 | 225=>172 | 224=>173 | 267=>174 | 266=>185 | 314=>186 | n=>n,fun | 9=>9 | 4=>4 | 59=>154 | 3=>3 | 5=>5 | 46=>127 | 146=>179 | 51=>178 | n=>n,fun | 1=>6 | n=>n⟩
theorem Tryz.laysM145:Go.Proofs.LaysM.n145 Tryz.prog Tryz.laysM145_ren:={
 mixed:=by kernel_rfl
 f145:=Tryz.func97.trans (congrArg some (by kernel_rfl))
 f217:=Tryz.func171.trans (congrArg some (by kernel_rfl))
 f219:=Tryz.func162.trans (congrArg some (by kernel_rfl))
 f220:=Tryz.func130.trans (congrArg some (by kernel_rfl))
 f224:=Tryz.func173.trans (congrArg some (by kernel_rfl))
 f225:=Tryz.func172.trans (congrArg some (by kernel_rfl))
 f266:=Tryz.func185.trans (congrArg some (by kernel_rfl))
 f267:=Tryz.func174.trans (congrArg some (by kernel_rfl))
 f314:=Tryz.func186.trans (congrArg some (by kernel_rfl))
 t3:=Tryz.underlying3
 a3:=Tryz.isAgg3
 z3:=Tryz.sizeOf3
 v3:=Tryz.zeroValue3
 t4:=Tryz.underlying4
 a4:=Tryz.isAgg4
 z4:=Tryz.sizeOf4
 v4:=Tryz.zeroValue4
 t5:=Tryz.underlying5
 a5:=Tryz.isAgg5
 z5:=Tryz.sizeOf5
 v5:=Tryz.zeroValue5
 t9:=Tryz.underlying9
 a9:=Tryz.isAgg9
 z9:=Tryz.sizeOf9
 v9:=Tryz.zeroValue9
 t46:=Tryz.underlying127
 a46:=Tryz.isAgg127
 z46:=Tryz.sizeOf127
 v46:=Tryz.zeroValue127
 t51:=Tryz.underlying178
 a51:=Tryz.isAgg178
 z51:=Tryz.sizeOf178
 v51:=Tryz.zeroValue178
 t59:=Tryz.underlying154
 a59:=Tryz.isAgg154
 z59:=Tryz.sizeOf154
 v59:=Tryz.zeroValue154
 t146:=Tryz.underlying179
 a146:=Tryz.isAgg179
 z146:=Tryz.sizeOf179
 v146:=Tryz.zeroValue179
 g1:=by kernel_rfl
 i3:=by kernel_rfl
 i4:=by kernel_rfl
 i5:=by kernel_rfl
 i9:=by kernel_rfl
 i46:=by kernel_rfl
 i51:=by kernel_rfl
 i59:=by kernel_rfl
 i146:=by kernel_rfl
 m1:=by kernel_rfl
 s1_3:=fun w h=>Go.Proofs.cell_of_shapedOpen_int (zero:=#[.int .i64 0]) (t:=3) h (of_decide_eq_true (by kernel_rfl)) (by kernel_rfl) rfl (by kernel_rfl) (by kernel_rfl) Tryz.underlying3 }
def Tryz.laysC172_ren:Go.Shelf.Ren:=⟨fun | 172=>165 | 244=>176 | 245=>177 | 247=>187 | 279=>188 | 280=>189 | 281=>190 | 282=>191 | 287=>200 | 316=>201 | 171=>116 | 205=>202 | 321=>206 | 322=>207 | 243=>150 | 246=>169 | 283=>181 | 284=>182 | 285=>183 | 286=>184 | 129=>196 | 317=>195 | 318=>197 | 319=>198 | 320=>199 | 337=>204 | 338=>205 | n=>n,fun | 9=>9 | 3=>3 | 75=>80 | 76=>132 | 4=>4 | 5=>5 | 167=>274 | 37=>77 | 0=>0 | 85=>275 | 2=>2 | 168=>277 | 53=>181 | 175=>286 | 46=>127 | 210=>290 | 127=>134 | 145=>295 | 143=>293 | 21=>21 | 171=>268 | 173=>271 | 212=>283 | 51=>178 | 20=>20 | 213=>284 | 232=>296 | 233=>297 | 80=>95 | n=>n,fun | 15=>8 | 16=>9 | 17=>7 | 18=>10 | 19=>11 | n=>n⟩
theorem Tryz.laysC172:Go.Proofs.LaysC.n172 Tryz.prog Tryz.laysC172_ren:={
 mixed:=by kernel_rfl
 f129:=Tryz.func196.trans (congrArg some (by kernel_rfl))
 f171:=Tryz.func116.trans (congrArg some (by kernel_rfl))
 f172:=Tryz.func165.trans (congrArg some (by kernel_rfl))
 f205:=Tryz.func202.trans (congrArg some (by kernel_rfl))
 f243:=Tryz.func150.trans (congrArg some (by kernel_rfl))
 f244:=Tryz.func176.trans (congrArg some (by kernel_rfl))
 f245:=Tryz.func177.trans (congrArg some (by kernel_rfl))
 f246:=Tryz.func169.trans (congrArg some (by kernel_rfl))
 f247:=Tryz.func187.trans (congrArg some (by kernel_rfl))
 f279:=Tryz.func188.trans (congrArg some (by kernel_rfl))
 f280:=Tryz.func189.trans (congrArg some (by kernel_rfl))
 f281:=Tryz.func190.trans (congrArg some (by kernel_rfl))
 f282:=Tryz.func191.trans (congrArg some (by kernel_rfl))
 f283:=Tryz.func181.trans (congrArg some (by kernel_rfl))
 f284:=Tryz.func182.trans (congrArg some (by kernel_rfl))
 f285:=Tryz.func183.trans (congrArg some (by kernel_rfl))
 f286:=Tryz.func184.trans (congrArg some (by kernel_rfl))
 f287:=Tryz.func200.trans (congrArg some (by kernel_rfl))
 f316:=Tryz.func201.trans (congrArg some (by kernel_rfl))
 f317:=Tryz.func195.trans (congrArg some (by kernel_rfl))
 f318:=Tryz.func197.trans (congrArg some (by kernel_rfl))
 f319:=Tryz.func198.trans (congrArg some (by kernel_rfl))
 f320:=Tryz.func199.trans (congrArg some (by kernel_rfl))
 f321:=Tryz.func206.trans (congrArg some (by kernel_rfl))
 f322:=Tryz.func207.trans (congrArg some (by kernel_rfl))
 f337:=Tryz.func204.trans (congrArg some (by kernel_rfl))
 f338:=Tryz.func205.trans (congrArg some (by kernel_rfl))
 t0:=Tryz.underlying0
 a0:=Tryz.isAgg0
 z0:=Tryz.sizeOf0
 v0:=Tryz.zeroValue0
 t2:=Tryz.underlying2
 a2:=Tryz.isAgg2
 z2:=Tryz.sizeOf2
 v2:=Tryz.zeroValue2
 t3:=Tryz.underlying3
 a3:=Tryz.isAgg3
 z3:=Tryz.sizeOf3
 v3:=Tryz.zeroValue3
 t4:=Tryz.underlying4
 a4:=Tryz.isAgg4
 z4:=Tryz.sizeOf4
 v4:=Tryz.zeroValue4
 t5:=Tryz.underlying5
 a5:=Tryz.isAgg5
 z5:=Tryz.sizeOf5
 v5:=Tryz.zeroValue5
 t9:=Tryz.underlying9
 a9:=Tryz.isAgg9
 z9:=Tryz.sizeOf9
 v9:=Tryz.zeroValue9
 t20:=Tryz.underlying20
 a20:=Tryz.isAgg20
 z20:=Tryz.sizeOf20
 v20:=Tryz.zeroValue20
 t21:=Tryz.underlying21
 a21:=Tryz.isAgg21
 z21:=Tryz.sizeOf21
 v21:=Tryz.zeroValue21
 t37:=Tryz.underlying77
 a37:=Tryz.isAgg77
 z37:=Tryz.sizeOf77
 v37:=Tryz.zeroValue77
 t46:=Tryz.underlying127
 a46:=Tryz.isAgg127
 z46:=Tryz.sizeOf127
 v46:=Tryz.zeroValue127
 t51:=Tryz.underlying178
 a51:=Tryz.isAgg178
 z51:=Tryz.sizeOf178
 v51:=Tryz.zeroValue178
 t53:=Tryz.underlying181
 a53:=Tryz.isAgg181
 z53:=Tryz.sizeOf181
 v53:=Tryz.zeroValue181
 t75:=Tryz.underlying80
 a75:=Tryz.isAgg80
 z75:=Tryz.sizeOf80
 v75:=Tryz.zeroValue80
 t76:=Tryz.underlying132
 a76:=Tryz.isAgg132
 z76:=Tryz.sizeOf132
 v76:=Tryz.zeroValue132
 t85:=Tryz.underlying275
 a85:=Tryz.isAgg275
 z85:=Tryz.sizeOf275
 v85:=Tryz.zeroValue275
 t127:=Tryz.underlying134
 a127:=Tryz.isAgg134
 z127:=Tryz.sizeOf134
 v127:=Tryz.zeroValue134
 t143:=Tryz.underlying293
 a143:=Tryz.isAgg293
 z143:=Tryz.sizeOf293
 v143:=Tryz.zeroValue293
 t145:=Tryz.underlying295
 a145:=Tryz.isAgg295
 z145:=Tryz.sizeOf295
 v145:=Tryz.zeroValue295
 t167:=Tryz.underlying274
 a167:=Tryz.isAgg274
 z167:=Tryz.sizeOf274
 v167:=Tryz.zeroValue274
 t168:=Tryz.underlying277
 a168:=Tryz.isAgg277
 z168:=Tryz.sizeOf277
 v168:=Tryz.zeroValue277
 t171:=Tryz.underlying268
 a171:=Tryz.isAgg268
 z171:=Tryz.sizeOf268
 v171:=Tryz.zeroValue268
 t173:=Tryz.underlying271
 a173:=Tryz.isAgg271
 z173:=Tryz.sizeOf271
 v173:=Tryz.zeroValue271
 t175:=Tryz.underlying286
 a175:=Tryz.isAgg286
 z175:=Tryz.sizeOf286
 v175:=Tryz.zeroValue286
 t210:=Tryz.underlying290
 a210:=Tryz.isAgg290
 z210:=Tryz.sizeOf290
 v210:=Tryz.zeroValue290
 t212:=Tryz.underlying283
 a212:=Tryz.isAgg283
 z212:=Tryz.sizeOf283
 v212:=Tryz.zeroValue283
 t213:=Tryz.underlying284
 a213:=Tryz.isAgg284
 z213:=Tryz.sizeOf284
 t232:=Tryz.underlying296
 a232:=Tryz.isAgg296
 z232:=Tryz.sizeOf296
 v232:=Tryz.zeroValue296
 t233:=Tryz.underlying297
 a233:=Tryz.isAgg297
 z233:=Tryz.sizeOf297
 v233:=Tryz.zeroValue297
 g15:=by kernel_rfl
 g16:=by kernel_rfl
 g17:=by kernel_rfl
 g18:=by kernel_rfl
 g19:=by kernel_rfl
 t80:=Tryz.underlying95
 a80:=Tryz.isAgg95
 z80:=Tryz.sizeOf95
 v80:=Tryz.zeroValue95
 i0:=by kernel_rfl
 i2:=by kernel_rfl
 i3:=by kernel_rfl
 i4:=by kernel_rfl
 i5:=by kernel_rfl
 i9:=by kernel_rfl
 i20:=by kernel_rfl
 i21:=by kernel_rfl
 i37:=by kernel_rfl
 i46:=by kernel_rfl
 i51:=by kernel_rfl
 i53:=by kernel_rfl
 i75:=by kernel_rfl
 i76:=by kernel_rfl
 i80:=by kernel_rfl
 i85:=by kernel_rfl
 i127:=by kernel_rfl
 i143:=by kernel_rfl
 i145:=by kernel_rfl
 i167:=by kernel_rfl
 i168:=by kernel_rfl
 i171:=by kernel_rfl
 i173:=by kernel_rfl
 i175:=by kernel_rfl
 i210:=by kernel_rfl
 i212:=by kernel_rfl
 i232:=by kernel_rfl
 i233:=by kernel_rfl
 m15:=by kernel_rfl
 m16:=by kernel_rfl
 m17:=by kernel_rfl
 m18:=by kernel_rfl
 m19:=by kernel_rfl
 c0:=by kernel_rfl
 c2:=by kernel_rfl
 c3:=by kernel_rfl
 c4:=by kernel_rfl
 c5:=by kernel_rfl
 c9:=by kernel_rfl
 c20:=by kernel_rfl
 c21:=by kernel_rfl
 c37:=by kernel_rfl
 c46:=by kernel_rfl
 c51:=by kernel_rfl
 c53:=by kernel_rfl
 c75:=by kernel_rfl
 c76:=by kernel_rfl
 c80:=by kernel_rfl
 c85:=by kernel_rfl
 c127:=by kernel_rfl
 c143:=by kernel_rfl
 c145:=by kernel_rfl
 c167:=by kernel_rfl
 c168:=by kernel_rfl
 c171:=by kernel_rfl
 c173:=by kernel_rfl
 c175:=by kernel_rfl
 c210:=by kernel_rfl
 c212:=by kernel_rfl
 c213:=by kernel_rfl
 c232:=by kernel_rfl
 c233:=by kernel_rfl }
def Tryz.laysM171_ren:Go.Shelf.Ren:=⟨fun | 171=>116 | 243=>150 | 246=>169 | 283=>181 | 284=>182 | 285=>183 | 286=>184 | 129=>196 | 317=>195 | 318=>197 | 319=>198 | 320=>199 | 337=>204 | 338=>205 | n=>n,fun | 3=>3 | 9=>9 | 2=>2 | 4=>4 | 171=>268 | 0=>0 | 53=>181 | 37=>77 | 5=>5 | 173=>271 | 212=>283 | 51=>178 | 20=>20 | 213=>284 | 46=>127 | 232=>296 | 233=>297 | n=>n,fun | 17=>7 | 18=>10 | 19=>11 | n=>n⟩
theorem Tryz.laysM171:Go.Proofs.LaysM.n171 Tryz.prog Tryz.laysM171_ren:={
 mixed:=by kernel_rfl
 f129:=Tryz.func196.trans (congrArg some (by kernel_rfl))
 f171:=Tryz.func116.trans (congrArg some (by kernel_rfl))
 f243:=Tryz.func150.trans (congrArg some (by kernel_rfl))
 f246:=Tryz.func169.trans (congrArg some (by kernel_rfl))
 f283:=Tryz.func181.trans (congrArg some (by kernel_rfl))
 f284:=Tryz.func182.trans (congrArg some (by kernel_rfl))
 f285:=Tryz.func183.trans (congrArg some (by kernel_rfl))
 f286:=Tryz.func184.trans (congrArg some (by kernel_rfl))
 f317:=Tryz.func195.trans (congrArg some (by kernel_rfl))
 f318:=Tryz.func197.trans (congrArg some (by kernel_rfl))
 f319:=Tryz.func198.trans (congrArg some (by kernel_rfl))
 f320:=Tryz.func199.trans (congrArg some (by kernel_rfl))
 f337:=Tryz.func204.trans (congrArg some (by kernel_rfl))
 f338:=Tryz.func205.trans (congrArg some (by kernel_rfl))
 t0:=Tryz.underlying0
 a0:=Tryz.isAgg0
 z0:=Tryz.sizeOf0
 v0:=Tryz.zeroValue0
 t2:=Tryz.underlying2
 a2:=Tryz.isAgg2
 z2:=Tryz.sizeOf2
 v2:=Tryz.zeroValue2
 t3:=Tryz.underlying3
 a3:=Tryz.isAgg3
 z3:=Tryz.sizeOf3
 v3:=Tryz.zeroValue3
 t4:=Tryz.underlying4
 a4:=Tryz.isAgg4
 z4:=Tryz.sizeOf4
 v4:=Tryz.zeroValue4
 t5:=Tryz.underlying5
 a5:=Tryz.isAgg5
 z5:=Tryz.sizeOf5
 v5:=Tryz.zeroValue5
 t9:=Tryz.underlying9
 a9:=Tryz.isAgg9
 z9:=Tryz.sizeOf9
 v9:=Tryz.zeroValue9
 t20:=Tryz.underlying20
 a20:=Tryz.isAgg20
 z20:=Tryz.sizeOf20
 v20:=Tryz.zeroValue20
 t37:=Tryz.underlying77
 a37:=Tryz.isAgg77
 z37:=Tryz.sizeOf77
 v37:=Tryz.zeroValue77
 t46:=Tryz.underlying127
 a46:=Tryz.isAgg127
 z46:=Tryz.sizeOf127
 v46:=Tryz.zeroValue127
 t51:=Tryz.underlying178
 a51:=Tryz.isAgg178
 z51:=Tryz.sizeOf178
 v51:=Tryz.zeroValue178
 t53:=Tryz.underlying181
 a53:=Tryz.isAgg181
 z53:=Tryz.sizeOf181
 v53:=Tryz.zeroValue181
 t171:=Tryz.underlying268
 a171:=Tryz.isAgg268
 z171:=Tryz.sizeOf268
 v171:=Tryz.zeroValue268
 t173:=Tryz.underlying271
 a173:=Tryz.isAgg271
 z173:=Tryz.sizeOf271
 v173:=Tryz.zeroValue271
 t212:=Tryz.underlying283
 a212:=Tryz.isAgg283
 z212:=Tryz.sizeOf283
 v212:=Tryz.zeroValue283
 t213:=Tryz.underlying284
 a213:=Tryz.isAgg284
 z213:=Tryz.sizeOf284
 t232:=Tryz.underlying296
 a232:=Tryz.isAgg296
 z232:=Tryz.sizeOf296
 v232:=Tryz.zeroValue296
 t233:=Tryz.underlying297
 a233:=Tryz.isAgg297
 z233:=Tryz.sizeOf297
 v233:=Tryz.zeroValue297
 g17:=by kernel_rfl
 g18:=by kernel_rfl
 g19:=by kernel_rfl
 i0:=by kernel_rfl
 i2:=by kernel_rfl
 i3:=by kernel_rfl
 i4:=by kernel_rfl
 i5:=by kernel_rfl
 i9:=by kernel_rfl
 i20:=by kernel_rfl
 i37:=by kernel_rfl
 i46:=by kernel_rfl
 i51:=by kernel_rfl
 i53:=by kernel_rfl
 i171:=by kernel_rfl
 i173:=by kernel_rfl
 i212:=by kernel_rfl
 i232:=by kernel_rfl
 i233:=by kernel_rfl
 m17:=by kernel_rfl
 m18:=by kernel_rfl
 m19:=by kernel_rfl }
end Go.Proofs

/- Contracts of package vector's reader: begins, runOf, fixedSize. -/
namespace Go.Proofs.YtapachlhdgehjaaGreatDoor
open Go.RowKit
def rsL (s:ByteArray) (p:Nat):List UInt8:=s.data.toList.drop p
theorem rsL_ext (s:ByteArray) (p:Nat):(s.extract p s.size).data.toList=rsL s p:=by
 unfold rsL
 rw [ByteArray.data_extract,Array.toList_extract,List.extract_eq_take_drop]
 exact List.take_of_length_le (by simp)
def bgB (s:ByteArray) (p:Nat) (x:List UInt8):Bool:=Lib.hasPrefix (rsL s p) x
theorem gwRd {W:World} {b:Nat} {s:ByteArray} {p:Nat} (h:Rd W b s p) (t:Gw W):t.wd.cell? ⟨b,0,none⟩=some (.string s)∧t.wd.cell? ⟨b,1,none⟩=some (.int .i64 p):=by
 have c0:=Bk.cell (h.below t.below) 0
 have c1:=Bk.cell (h.below t.below) 1
 simp only [List.getElem?_toArray,List.getElem?_cons_zero,List.getElem?_cons_succ] at c0 c1
 exact ⟨c0,c1⟩
set_option maxRecDepth 10000 in
set_option maxHeartbeats 2000000 in
theorem begins_any (b:Nat) (s:ByteArray) (p:Nat) (x:ByteArray) (w:World) (h:Rd w b s p) (hp:p≤s.size) :
  Calls Tryz.prog 68 #[.pointer (some ⟨b,0,none⟩),.string x] w fun e w'=>e = .returned (.bool (bgB s p x.data.toList))∧Below w.heap.size w w':=by
 have HP:Hid (∀ W,Calls Tryz.prog 104 #[.string (s.extract p s.size),.string x] W fun e w'=>e = .returned (.bool (bgB s p x.data.toList))∧w'=W):=fun W=>by
  have:=Any.strings_HasPrefix Tryz.lays99 (s.extract p s.size) x W
  rw [rsL_ext] at this
  exact this
 have ne:Nonempty (Gw w):=⟨⟨w,Below.refl _ _⟩⟩
 have c0:=fun t=>(gwRd h t).1
 have c1:=fun t=>(gwRd h t).2
 have hp':(p:Int)≤s.size:=by omega
 clear h
 go_enter Tryz.func68,Tryz.ntmps68
 go_wp2_with fail
 refine wp_region_gw (by kernel_rfl) (by kernel_rfl) ?_
 repeat (go_big_quiet_step (first | (go_at_call 104;exact gw_same (HP.out _))))
 refine wpQuiet_nil ?_
 rintro _ ⟨t,rfl⟩
 have HB:Hid (Below w.heap.size w t.wd):=t.below
 generalize t.wd=W1 at *
 go_wp2
 go_ret
 exact ⟨rfl,HB.out⟩
def rnO (P:Nat→Bool) (l:List UInt8):Nat:=(l.takeWhile fun c=>P c.toNat).length
theorem rnO_le (P:Nat→Bool) (l:List UInt8):rnO P l≤l.length:=by
 unfold rnO
 exact (List.takeWhile_sublist _).length_le
theorem rnO_at {P:Nat→Bool} {q:ByteArray} {k:Nat} (hk:k≤q.size) (ha:∀ j,j<k→P (byA q j)=true) (he:k<q.size→P (byA q k)=false):rnO P q.data.toList=k:=by
 have hl:q.data.toList.length=q.size:=by simp
 have key:∀ (l:List UInt8) (k:Nat),k≤l.length→(∀ j (h:j<l.length),j<k→P (l[j]).toNat=true)→(∀ h:k<l.length,P (l[k]).toNat=false)→rnO P l=k:=by
  intro l
  induction l with
  | nil=>intro k h _ _;simp at h;subst h;rfl
  | cons x t ih =>
   intro k h1 h2 h3
   cases k with
   | zero =>
    have:=h3 (by simp)
    unfold rnO
    rw [List.takeWhile_cons]
    simp at this
    simp [this]
   | succ k =>
    have hx:=h2 0 (by simp) (by omega)
    have:=ih k (by simpa using h1) (fun j hj hjk=>by have:=h2 (j+1) (by simpa using hj) (by omega);simpa using this) (fun hk=>by have:=h3 (by simpa using hk);simpa using this)
    unfold rnO at this ⊢
    rw [List.takeWhile_cons]
    simp at hx
    simp [hx,this]
 have eb:∀ j (h:j<q.data.toList.length),byA q j=(q.data.toList[j]).toNat:=fun j h=>by
  rw [byA_at (by omega)]
  congr 1
 exact key _ k (by omega) (fun j h hj=>by rw [← eb j h];exact ha j hj) (fun h=>by rw [← eb k h];exact he (by omega))
set_option maxRecDepth 10000 in
set_option maxHeartbeats 2000000 in
theorem runOf_any (F:Nat) (P:Nat→Bool) (q:ByteArray) (w:World) (hq:q.size≤1000000) (eg:∀ args w,(callFunc F args).run Tryz.prog w = .ok (.enter F args) w)
  (hC:∀ c W,c<256→Calls Tryz.prog F #[.int .u8 ((c:Nat):Int)] W fun e w'=>e = .returned (.bool (P c))∧w'=W) :
  Calls Tryz.prog 138 #[.string q,.func (.func F) #[] #[]] w fun e w'=>e = .returned (.int .i64 (rnO P q.data.toList))∧w'=w:=by
 have HC:Hid (∀ c W,c<256→Calls Tryz.prog F #[.int .u8 ((c:Nat):Int)] W fun e w'=>e = .returned (.bool (P c))∧w'=W):=hC
 obtain ⟨R,hR⟩:∃ R,R=rnO P q.data.toList:=⟨_,rfl⟩
 have HR:Hid (∀ k,k≤q.size→(∀ j,j<k→P (byA q j)=true)→(k<q.size→P (byA q k)=false)→R=k):=fun k h1 h2 h3=>by rw [hR];exact rnO_at h1 h2 h3
 rw [← hR]
 clear hC hR
 go_enter Tryz.func138,Tryz.ntmps138
 go_wp2_with fail
 go_loopw [5] (fun i wr=>∃ k:Nat,k≤q.size∧i = .int .i64 k∧Hid (∀ j,j<k→P (byA q j)=true)∧wr=w) (fun i _=>q.size - (intOf i).toNat)
 case atStart=>exact ⟨0,Nat.zero_le _,rfl,fun j hj=>absurd hj (Nat.not_lt_zero _),rfl⟩
 case round =>
  obtain ⟨k,hk,rfl,HK,rfl⟩:=hrel
  by_cases hlt:k<q.size
  ·have hb:=UInt8.toNat_lt q[k]
   have eb:=byA_at hlt
   cases hp:P (q[k]).toNat with
   | true =>
    have HN:Hid (∀ j,j<k+1→P (byA q j)=true):=fun j hj=>by
     by_cases e:j=k
     ·subst e;rw [eb];exact hp
     ·exact HK.out j (by omega)
    clear HK eb
    go_wp2_with fail
    refine (HC.out _ _ hb).mono ?_
    rintro e w' ⟨rfl,hw⟩
    obtain rfl:=hw.symm
    rw [hp]
    go_wp2
    go_roundw
    case rel=>exact ⟨k+1,by omega,by go_num,HN,by first | rfl | trivial⟩
    case measure=>simp [intOf];omega
   | false =>
    have hE:R=k:=HR.out k hk HK.out (fun h=>by rw [eb];exact hp)
    subst hE
    clear HK HR eb
    go_wp2_with fail
    refine (HC.out _ _ hb).mono ?_
    rintro e w' ⟨rfl,hw⟩
    obtain rfl:=hw.symm
    rw [hp]
    go_wp2
    go_ret
    exact ⟨rfl,rfl⟩
  ·obtain rfl:k=q.size:=by omega
   have hE:R=q.size:=HR.out _ hk HK.out (fun h=>absurd h (Nat.lt_irrefl _))
   subst hE
   clear HR HK
   go_wp2
   go_ret
   exact ⟨rfl,rfl⟩
def fxB (c:Nat):Bool:=decide (c<65)||decide (90<c)
set_option maxHeartbeats 1000000 in
theorem fixed1_any (c:Nat) (w:World) (hc:c<256) :
  Calls Tryz.prog 139 #[.int .u8 ((c:Nat):Int)] w fun e w'=>e = .returned (.bool (fxB c))∧w'=w:=by
 go_enter Tryz.func139,Tryz.ntmps139
 go_wp2
 all_goals
  go_ret
  refine ⟨ret_bool ?_,rfl⟩
  simp [fxB]
  try omega
theorem fixed_any (q:ByteArray) (w:World) (hq:q.size≤1000000) :
  Calls Tryz.prog 102 #[.string q] w fun e w'=>e = .returned (.int .i64 (rnO fxB q.data.toList))∧w'=w:=by
 have HR:Hid (∀ W,Calls Tryz.prog 138 #[.string q,.func (.func 139) #[] #[]] W fun e w'=>e = .returned (.int .i64 (rnO fxB q.data.toList))∧w'=W):=fun W=>runOf_any _ fxB q W hq (enters_of Tryz.func139 (by kernel_rfl) rfl) fixed1_any
 go_enter Tryz.func102,Tryz.ntmps102
 go_wp2_with fail
 refine (HR.out _).mono ?_
 rintro e w' ⟨rfl,hw⟩
 obtain rfl:=hw.symm
 go_wp2
 go_ret
 exact ⟨rfl,rfl⟩
end Go.Proofs.YtapachlhdgehjaaGreatDoor
