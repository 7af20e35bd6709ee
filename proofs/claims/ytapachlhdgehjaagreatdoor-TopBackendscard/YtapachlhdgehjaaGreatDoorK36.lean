/-
  Texts of this claim, one behind the other: what each is about stands ahead of it.
-/
import Derived.Test.YtapachlhdgehjaaGreatDoorK35
/- Contract of package colour: Parse. -/
namespace Go.Proofs.YtapachlhdgehjaaGreatDoor
open Go.RowKit
theorem cut_size (s:ByteArray):(s.extract 1 s.size).size=s.size - 1:=by simp [ByteArray.size_extract]
theorem cut_at (s:ByteArray) (j:Nat) (h:j<(s.extract 1 s.size).size) (h':j+1<s.size):(s.extract 1 s.size)[j]=s[j+1]:=by
 rw [ByteArray.getElem_extract]
 congr 1
 omega
theorem cut_dg (s:ByteArray) (j:Nat) (h:j+1<s.size):dg (s.extract 1 s.size) j=dg s (j+1):=by
 have h1:j<(s.extract 1 s.size).size:=by rw [cut_size];omega
 rw [dg_at h1,dg_at h,cut_at s j h1 h]
theorem cut_six (s:ByteArray) (hb:bel s=s.size):∀ (j:Nat) (h:j<(s.extract 1 s.size).size),six ((s.extract 1 s.size)[j]).toNat=true:=by
 intro j h
 have h1:j+1<s.size:=by rw [cut_size] at h;omega
 rw [cut_at s j h h1]
 exact bel_six h1 (by omega) (by omega)
theorem parC_three {s:ByteArray} (hb:bel s=s.size) (h:s.size=4):parC s=⟨17 * dg s 1,17 * dg s 2,17 * dg s 3,255⟩:=by
 unfold parC
 rw [if_pos (ok_iff.2 ⟨hb,by omega⟩),if_pos (by omega)]
theorem rd_two {t:ByteArray} (hd:∀ j,j<t.size→0≤dg t j∧dg t j≤15) (h:t.size=6∨t.size=8):rd t 2 t.size 0=16 * dg t 0+dg t 1∧rd t 2 t.size 1=16 * dg t 2+dg t 3∧rd t 2 t.size 2=16 * dg t 4+dg t 5 ∧
  rd t 2 t.size 3=if t.size=6 then 255 else 16 * dg t 6+dg t 7:=by
 have h0:=hd 0 (by omega)
 have h1:=hd 1 (by omega)
 have h2:=hd 2 (by omega)
 have h3:=hd 3 (by omega)
 have h4:=hd 4 (by omega)
 have h5:=hd 5 (by omega)
 rcases h with h | h
 ·rw [h]
  simp [rd]
  omega
 ·have h6:=hd 6 (by omega)
  have h7:=hd 7 (by omega)
  rw [h]
  simp [rd]
  omega
theorem parC_two {s:ByteArray} (hb:bel s=s.size) (h:s.size=7∨s.size=9) :
  parC s=⟨rd (s.extract 1 s.size) 2 (s.extract 1 s.size).size 0,rd (s.extract 1 s.size) 2 (s.extract 1 s.size).size 1,rd (s.extract 1 s.size) 2 (s.extract 1 s.size).size 2,rd (s.extract 1 s.size) 2 (s.extract 1 s.size).size 3⟩:=by
 have hz:=cut_size s
 have hd:∀ j,j<(s.extract 1 s.size).size→0≤dg (s.extract 1 s.size) j∧dg (s.extract 1 s.size) j≤15:=fun j hj=>by
  rw [cut_dg s j (by omega)]
  exact dg_bd (by omega) (by omega)
 obtain ⟨e0,e1,e2,e3⟩:=rd_two hd (by omega)
 rw [e0,e1,e2,e3,cut_dg s 0 (by omega),cut_dg s 1 (by omega),cut_dg s 2 (by omega),cut_dg s 3 (by omega),cut_dg s 4 (by omega),cut_dg s 5 (by omega)]
 unfold parC
 rw [if_pos (ok_iff.2 ⟨hb,by omega⟩),if_neg (by omega)]
 rcases h with h | h
 ·rw [if_pos (by omega),if_pos (by omega)]
 ·rw [if_neg (by omega),if_neg (by omega),cut_dg s 6 (by omega),cut_dg s 7 (by omega)]
set_option maxHeartbeats 1000000 in
theorem parse_any (s:ByteArray) (w:World) (hs:s.size≤9223372036854775807) :
  Calls Tryz.prog 167 #[.string s] w fun e w'=>e = .returned (.tuple #[(Value.agg #[.int .u8 (parC s).r,.int .u8 (parC s).g,.int .u8 (parC s).b,.int .u8 (parC s).a]),.int .i64 (parN s),.int .i64 (parE s)])∧Below w.heap.size w w':=by
 have hle:=bel_le s
 have cs:bel s<s.size∨(bel s=s.size∧s.size=4)∨(bel s=s.size∧(s.size=7∨s.size=9))∨(bel s=s.size∧s.size≠4∧s.size≠7∧s.size≠9):=by omega
 rcases cs with c | ⟨c,c4⟩ | ⟨c,c7⟩ | ⟨c,c1,c2,c3⟩
 ·have hn:okT s=false:=by rw [Bool.eq_false_iff];intro h;have:=(ok_iff.1 h).1;omega
  rw [show parC s=⟨0,0,0,0⟩ by unfold parC;rw [if_neg (by simp [hn])],show parN s=(bel s:Nat) by unfold parN;rw [if_neg (by simp [hn])],show parE s=40 by unfold parE;rw [if_neg (by simp [hn])]]
  clear hn
  obtain ⟨n,hn⟩:∃ n,n=bel s:=⟨_,rfl⟩
  have HB:=belonging_any s
  rw [← hn] at HB c hle ⊢
  have HB':Hid (∀ w,s.size≤9223372036854775807→Calls Tryz.prog 178 #[.string s] w fun e w'=>e = .returned (.int .i64 (n:Nat))∧w'=w):=HB
  clear HB hn
  go_enter Tryz.func167,Tryz.ntmps167
  go_wp2_with (go_at_call 178;refine (HB'.out _ hs).mono ?_;rintro e w' ⟨rfl,rfl⟩)
  exact bodyPost_ret (v:=.tuple #[.agg #[.int .u8 0,.int .u8 0,.int .u8 0,.int .u8 0],.int .i64 n,.int .i64 40]) (by simp [results,Tryz.results167,go_sem]) rfl ⟨rfl,(Below.refl _ _).alloc (Nat.le_refl _) _⟩
 ·have hz:=cut_size s
  have HR:Hid (∀ w,Calls Tryz.prog 179 #[.string (s.extract 1 s.size),.int .i64 1] w fun e w'=>e = .returned (Value.agg #[.int .u8 (parC s).r,.int .u8 (parC s).g,.int .u8 (parC s).b,.int .u8 (parC s).a])∧Below w.heap.size w w'):=fun w=>by
   have h:=read_one (s.extract 1 s.size) w (by omega) (cut_six s c)
   rw [cut_dg s 0 (by omega),cut_dg s 1 (by omega),cut_dg s 2 (by omega)] at h
   rw [parC_three c c4]
   exact h
  have hok:okT s=true:=ok_iff.2 ⟨c,by omega⟩
  rw [show parN s=0 by unfold parN;rw [if_pos hok],show parE s=0 by unfold parE;rw [if_pos hok]]
  have HB:Hid (∀ w,s.size≤9223372036854775807→Calls Tryz.prog 178 #[.string s] w fun e w'=>e = .returned (.int .i64 4)∧w'=w):=fun w h=>by
   have:=belonging_any s w h
   rw [c,c4] at this
   exact this
  clear hok c hle hz
  generalize parC s=z at *
  rw [c4] at HR
  go_enter Tryz.func167,Tryz.ntmps167
  go_wp2_with (go_at_call 178;refine (HB.out _ hs).mono ?_;rintro e w' ⟨rfl,rfl⟩)
  refine (HR.out _).mono ?_
  rintro e w1 ⟨rfl,hb⟩
  have C:=(AtC.new w 0 0 0 0 38).below hb
  have F:=((Fr.new w _ _).below hb).2
  have L:=((Below.refl w.heap.size w).alloc (Nat.le_refl _) _).trans (hb.mono (by simp))
  clear hb
  obtain ⟨z0,z1,z2,z3⟩:=C
  go_wp2
  exact bodyPost_ret (v:=.tuple #[(Value.agg #[.int .u8 z.r,.int .u8 z.g,.int .u8 z.b,.int .u8 z.a]),.int .i64 0,.int .i64 0]) (by simp [results,Tryz.results167,go_sem,z0,z1,z2,z3]) rfl ⟨rfl,set4_below L (by omega) _ _ _ _⟩
 ·have hz:=cut_size s
  have HR:Hid (∀ w,Calls Tryz.prog 179 #[.string (s.extract 1 s.size),.int .i64 2] w fun e w'=>e = .returned (Value.agg #[.int .u8 (parC s).r,.int .u8 (parC s).g,.int .u8 (parC s).b,.int .u8 (parC s).a])∧Below w.heap.size w w'):=fun w=>by
   have h:=read_two (s.extract 1 s.size) w (by omega) (cut_six s c)
   rw [parC_two c c7]
   exact h
  have hok:okT s=true:=ok_iff.2 ⟨c,by omega⟩
  rw [show parN s=0 by unfold parN;rw [if_pos hok],show parE s=0 by unfold parE;rw [if_pos hok]]
  generalize parC s=z at *
  rcases c7 with c7 | c7
  ·have HB:Hid (∀ w,s.size≤9223372036854775807→Calls Tryz.prog 178 #[.string s] w fun e w'=>e = .returned (.int .i64 7)∧w'=w):=fun w h=>by
    have:=belonging_any s w h
    rw [c,c7] at this
    exact this
   clear hok c hle hz
   rw [c7] at HR
   go_enter Tryz.func167,Tryz.ntmps167
   go_wp2_with (go_at_call 178;refine (HB.out _ hs).mono ?_;rintro e w' ⟨rfl,rfl⟩)
   refine (HR.out _).mono ?_
   rintro e w1 ⟨rfl,hb⟩
   have C:=(AtC.new w 0 0 0 0 38).below hb
   have F:=((Fr.new w _ _).below hb).2
   have L:=((Below.refl w.heap.size w).alloc (Nat.le_refl _) _).trans (hb.mono (by simp))
   clear hb
   obtain ⟨z0,z1,z2,z3⟩:=C
   go_wp2
   exact bodyPost_ret (v:=.tuple #[(Value.agg #[.int .u8 z.r,.int .u8 z.g,.int .u8 z.b,.int .u8 z.a]),.int .i64 0,.int .i64 0]) (by simp [results,Tryz.results167,go_sem,z0,z1,z2,z3]) rfl ⟨rfl,set4_below L (by omega) _ _ _ _⟩
  ·have HB:Hid (∀ w,s.size≤9223372036854775807→Calls Tryz.prog 178 #[.string s] w fun e w'=>e = .returned (.int .i64 9)∧w'=w):=fun w h=>by
    have:=belonging_any s w h
    rw [c,c7] at this
    exact this
   clear hok c hle hz
   rw [c7] at HR
   go_enter Tryz.func167,Tryz.ntmps167
   go_wp2_with (go_at_call 178;refine (HB.out _ hs).mono ?_;rintro e w' ⟨rfl,rfl⟩)
   refine (HR.out _).mono ?_
   rintro e w1 ⟨rfl,hb⟩
   have C:=(AtC.new w 0 0 0 0 38).below hb
   have F:=((Fr.new w _ _).below hb).2
   have L:=((Below.refl w.heap.size w).alloc (Nat.le_refl _) _).trans (hb.mono (by simp))
   clear hb
   obtain ⟨z0,z1,z2,z3⟩:=C
   go_wp2
   exact bodyPost_ret (v:=.tuple #[(Value.agg #[.int .u8 z.r,.int .u8 z.g,.int .u8 z.b,.int .u8 z.a]),.int .i64 0,.int .i64 0]) (by simp [results,Tryz.results167,go_sem,z0,z1,z2,z3]) rfl ⟨rfl,set4_below L (by omega) _ _ _ _⟩
 ·have hn:okT s=false:=by rw [Bool.eq_false_iff];intro h;have:=(ok_iff.1 h).2;omega
  rw [show parC s=⟨0,0,0,0⟩ by unfold parC;rw [if_neg (by simp [hn])],show parN s=(bel s:Nat) by unfold parN;rw [if_neg (by simp [hn])],show parE s=40 by unfold parE;rw [if_neg (by simp [hn])]]
  clear hn
  have HB:Hid (∀ w,s.size≤9223372036854775807→Calls Tryz.prog 178 #[.string s] w fun e w'=>e = .returned (.int .i64 s.size)∧w'=w):=fun w h=>by
   have:=belonging_any s w h
   rw [c] at this
   exact this
  rw [c]
  rw [c] at hle
  obtain ⟨_,h9⟩:=hle
  clear c
  go_enter Tryz.func167,Tryz.ntmps167
  go_wp2_with (go_at_call 178;refine (HB.out _ hs).mono ?_;rintro e w' ⟨rfl,rfl⟩)
  exact bodyPost_ret (v:=.tuple #[.agg #[.int .u8 0,.int .u8 0,.int .u8 0,.int .u8 0],.int .i64 s.size,.int .i64 40]) (by simp [results,Tryz.results167,go_sem]) rfl ⟨rfl,(Below.refl _ _).alloc (Nat.le_refl _) _⟩
end Go.Proofs.YtapachlhdgehjaaGreatDoor

/- Contracts of package vector's reader: colour. -/
namespace Go.Proofs.YtapachlhdgehjaaGreatDoor
open Go.RowKit
def clB (c:Nat):Bool:=(c==35)||(dgB c||((decide (97≤c)&&decide (c≤102))||(decide (65≤c)&&decide (c≤70))))
set_option maxRecDepth 10000 in
set_option maxHeartbeats 2000000 in
theorem isOfColour_any (c:Nat) (w:World) (hc:c<256) :
  Calls Tryz.prog 166 #[.int .u8 ((c:Nat):Int)] w fun e w'=>e = .returned (.bool (clB c))∧w'=w:=by
 have HD:Hid (∀ W,Calls Tryz.prog 164 #[.int .u8 ((c:Nat):Int)] W fun e w'=>e = .returned (.bool (dgB c))∧w'=W):=fun W=>isDigit_any c W hc
 obtain ⟨D,hD⟩:∃ D,D=dgB c:=⟨_,rfl⟩
 unfold clB
 rw [← hD] at HD ⊢
 clear hD
 cases D with
 | true =>
  go_enter Tryz.func166,Tryz.ntmps166
  go_wp2_with (go_at_call 164;refine (HD.out _).mono ?_;rintro e w' ⟨rfl,hw⟩;obtain rfl:=hw.symm)
  all_goals
   go_ret
   refine ⟨ret_bool ?_,rfl⟩
   simp
   try omega
 | false =>
  go_enter Tryz.func166,Tryz.ntmps166
  go_wp2_with (go_at_call 164;refine (HD.out _).mono ?_;rintro e w' ⟨rfl,hw⟩;obtain rfl:=hw.symm)
  all_goals
   go_ret
   refine ⟨ret_bool ?_,rfl⟩
   simp
   try omega
end Go.Proofs.YtapachlhdgehjaaGreatDoor

/- Contracts of package vector's reader: colour, walked. -/
namespace Go.Proofs.YtapachlhdgehjaaGreatDoor
open Go.RowKit
def pcC (r:List UInt8):List UInt8:=r.take (rnO clB r)
def coL (r:List UInt8):Option Co:=if parE ⟨(pcC r).toArray⟩=0∧txt (parC ⟨(pcC r).toArray⟩)=⟨(pcC r).toArray⟩ then some (parC ⟨(pcC r).toArray⟩) else none
theorem pcC_len (r:List UInt8):(pcC r).length=rnO clB r:=by
 unfold pcC
 rw [List.length_take]
 have:=rnO_le clB r
 omega
def CoQ (b:Nat) (s:ByteArray) (p:Nat) (w:World) (e:Ending) (w':World):Prop :=
 match coL (rsL s p) with
 | some c=>e = .returned (.tuple #[(Value.agg #[.int .u8 c.r,.int .u8 c.g,.int .u8 c.b,.int .u8 c.a]),.nilIface])∧Rd w' b s (p+(pcC (rsL s p)).length)∧Kp2 b b w w'
 | none=>∃ v,e = .returned (.tuple #[.agg #[.int .u8 0,.int .u8 0,.int .u8 0,.int .u8 0],v])∧IsW w.heap.size w' v p∧Rd w' b s p∧Kp2 b b w w'
theorem coq_some {b:Nat} {s:ByteArray} {p:Nat} {w w':World} {e:Ending} {c:Co} {r:List UInt8} (hr:r=rsL s p) (h:coL r=some c) (he:e = .returned (.tuple #[(Value.agg #[.int .u8 c.r,.int .u8 c.g,.int .u8 c.b,.int .u8 c.a]),.nilIface])) (h1:Rd w' b s (p+(pcC r).length)) (h2:Kp2 b b w w'):CoQ b s p w e w':=by
 subst hr
 unfold CoQ
 rw [h]
 exact ⟨he,h1,h2⟩
theorem coq_none {b:Nat} {s:ByteArray} {p:Nat} {w w':World} {e:Ending} {v:Value} {r:List UInt8} (hr:r=rsL s p) (h:coL r=none) (he:e = .returned (.tuple #[.agg #[.int .u8 0,.int .u8 0,.int .u8 0,.int .u8 0],v])) (h1:IsW w.heap.size w' v p∧Rd w' b s p∧Kp2 b b w w'):CoQ b s p w e w':=by
 subst hr
 unfold CoQ
 rw [h]
 exact ⟨v,he,h1⟩
theorem Bk.at4v {W:World} {b:Nat} {a0 a1 a2 a3:Value} {t:TypeId} (h:Bk W b #[a0,a1,a2,a3] t):W.cell? ⟨b,0,none⟩=some a0∧W.cell? ⟨b,1,none⟩=some a1∧W.cell? ⟨b,2,none⟩=some a2∧W.cell? ⟨b,3,none⟩=some a3:=⟨h.cell 0,h.cell 1,h.cell 2,h.cell 3⟩
set_option maxRecDepth 10000 in
set_option maxHeartbeats 8000000 in
theorem colourR_any (b:Nat) (s:ByteArray) (p:Nat) (w:World) (h:Rd w b s p) (hp:p≤s.size) (hs:s.size≤100000) :
  Calls Tryz.prog 141 #[.pointer (some ⟨b,0,none⟩)] w fun e w'=>CoQ b s p w e w':=by
 obtain ⟨Q,hQ⟩:∃ Q,Q=s.extract p s.size:=⟨_,rfl⟩
 have hQl:Q.data.toList=rsL s p:=by rw [hQ];exact rsL_ext s p
 have hQz:Q.size=s.size - p:=by rw [hQ];simp
 obtain ⟨r,hr⟩:∃ r,r=rsL s p:=⟨_,rfl⟩
 have HRr:Hid (r=rsL s p):=hr
 rw [← hr] at hQl
 obtain ⟨d,hd⟩:∃ d,d=rnO clB r:=⟨_,rfl⟩
 have HRu:Hid (∀ W,Calls Tryz.prog 138 #[.string Q,.func (.func 166) #[] #[]] W fun e w'=>e = .returned (.int .i64 d)∧w'=W):=fun W=>by
  have:=runOf_any 166 clB Q W (by omega) (enters_of Tryz.func166 (by kernel_rfl) rfl) isOfColour_any
  rw [hQl,← hd] at this
  exact this
 have hdl:d≤Q.size:=by
  have:=rnO_le clB r
  have e:r.length=Q.size:=by rw [← hQl];simp
  omega
 have hdl':(d:Int)≤Q.size:=by omega
 have hd0:(d:Int)≤100000:=by omega
 obtain ⟨PC,hPC⟩:∃ PC,PC=Q.extract 0 d:=⟨_,rfl⟩
 have hPl:PC.data.toList=pcC r:=by rw [hPC,ext_take,hQl,hd];rfl
 have hPe:(⟨(pcC r).toArray⟩:ByteArray)=PC:=by apply ByteArray.ext;apply Array.ext';simpa using hPl.symm
 have hPz:PC.size=(pcC r).length:=by
  have:PC.data.toList.length=PC.size:=by simp
  rw [← this,hPl]
 have hlen:=pcC_len r
 rw [← hd] at hlen
 have HPa:Hid (∀ W,Calls Tryz.prog 167 #[.string PC] W fun e w'=>e = .returned (.tuple #[(Value.agg #[.int .u8 (parC PC).r,.int .u8 (parC PC).g,.int .u8 (parC PC).b,.int .u8 (parC PC).a]),.int .i64 (parN PC),.int .i64 (parE PC)])∧Below W.heap.size W w'):=fun W=>parse_any PC W (by omega)
 have HTx:Hid (∀ W,Calls Tryz.prog 100 #[(Value.agg #[.int .u8 (parC PC).r,.int .u8 (parC PC).g,.int .u8 (parC PC).b,.int .u8 (parC PC).a])] W fun e w'=>e = .returned (.string (txt (parC PC)))∧Below W.heap.size W w'):=fun W=>text_any (parC PC) W (parC_ok PC)
 have HCo:Hid (coL r=if parE PC=0∧txt (parC PC)=PC then some (parC PC) else none):=by unfold Hid coL;rw [hPe]
 have HPC:=show Hid _ from hPC
 have Hlen:Hid ((pcC r).length=d∧PC.size=d):=⟨hlen,by omega⟩
 have HE:parE PC=0∨parE PC=40:=by unfold parE;split <;> simp
 obtain ⟨C,hC⟩:∃ C,C=parC PC:=⟨_,rfl⟩
 obtain ⟨E,hEe⟩:∃ E,E=parE PC:=⟨_,rfl⟩
 rw [← hC,← hEe] at HPa HCo
 rw [← hC] at HTx
 rw [← hEe] at HE
 generalize parN PC=N at HPa
 obtain ⟨rb,hrb⟩:∃ rb,rb=w.heap.size:=⟨_,rfl⟩
 have hbl:=Bk.lt h
 have hne:¬ b=rb:=by omega
 have hne2:¬ rb=b:=by omega
 have HB0:Hid (Below w.heap.size w (w.alloc (.cells #[.int .u8 0,.int .u8 0,.int .u8 0,.int .u8 0] 38))∧Bk (w.alloc (.cells #[.int .u8 0,.int .u8 0,.int .u8 0,.int .u8 0] 38)) rb #[.int .u8 0,.int .u8 0,.int .u8 0,.int .u8 0] 38∧Rd (w.alloc (.cells #[.int .u8 0,.int .u8 0,.int .u8 0,.int .u8 0] 38)) b s p):=by
  have q:Below w.heap.size w (w.alloc (.cells #[.int .u8 0,.int .u8 0,.int .u8 0,.int .u8 0] 38)):=(Below.refl _ w).alloc (Nat.le_refl _) _
  exact ⟨q,by rw [hrb];exact Bk.new _ _ _,h.below q⟩
 have HRb:Hid (rb=w.heap.size∧b<w.heap.size):=⟨hrb,hbl⟩
 have hp':(p:Int)≤s.size:=by omega
 clear hPC hPl hPe hPz hlen hQl hQz hr hd hdl hC hEe h
 go_enter Tryz.func141,Tryz.ntmps141
 go_wp2_with fail
 rw [← hrb]
 clear hrb hbl
 generalize w.alloc (.cells #[.int .u8 0,.int .u8 0,.int .u8 0,.int .u8 0] 38)=W0 at *
 have ne:Nonempty (Gw W0):=⟨⟨W0,Below.refl _ _⟩⟩
 have c0:=fun t=>(gwRd HB0.out.2.2 t).1
 have c1:=fun t=>(gwRd HB0.out.2.2 t).2
 refine wp_region_gw (by kernel_rfl) (by kernel_rfl) ?_
 repeat (go_big_quiet_step (fail))
 refine wpQuiet_nil ?_
 rintro _ ⟨t,rfl⟩
 rw [← hQ]
 clear hQ
 have HW1:Hid (Rd t.wd b s p∧Bk t.wd rb #[.int .u8 0,.int .u8 0,.int .u8 0,.int .u8 0] 38∧Below w.heap.size w t.wd):=⟨HB0.out.2.2.below t.below,HB0.out.2.1.below t.below,HB0.out.1.trans (t.below.mono HB0.out.1.size)⟩
 generalize t.wd=w1 at *
 clear c0 c1 ne HB0
 go_wp2_with fail
 refine (HRu.out _).mono ?_
 rintro e w' ⟨rfl,hw⟩
 obtain rfl:=hw.symm
 go_wp2_with fail
 rw [← HPC.out]
 refine (HPa.out _).mono ?_
 rintro e w2 ⟨rfl,hb2⟩
 have HW2:Hid (Rd w2 b s p∧Bk w2 rb #[.int .u8 0,.int .u8 0,.int .u8 0,.int .u8 0] 38∧Below w.heap.size w w2):=⟨HW1.out.1.below hb2,HW1.out.2.1.below hb2,HW1.out.2.2.trans (hb2.mono HW1.out.2.2.size)⟩
 clear hb2 HW1 HRu HPa
 obtain ⟨cb,hcb⟩:∃ cb,cb=w2.heap.size:=⟨_,rfl⟩
 have hcb1:¬ cb=b:=by have:=HW2.out.1.lt;omega
 have hcb2:¬ cb=rb:=by have:=HW2.out.2.1.lt;omega
 have HW3:Hid (Rd (w2.alloc (.cells #[.int .u8 C.r,.int .u8 C.g,.int .u8 C.b,.int .u8 C.a] 38)) b s p∧Bk (w2.alloc (.cells #[.int .u8 C.r,.int .u8 C.g,.int .u8 C.b,.int .u8 C.a] 38)) rb #[.int .u8 0,.int .u8 0,.int .u8 0,.int .u8 0] 38∧Below w.heap.size w (w2.alloc (.cells #[.int .u8 C.r,.int .u8 C.g,.int .u8 C.b,.int .u8 C.a] 38))∧Bk (w2.alloc (.cells #[.int .u8 C.r,.int .u8 C.g,.int .u8 C.b,.int .u8 C.a] 38)) cb #[.int .u8 C.r,.int .u8 C.g,.int .u8 C.b,.int .u8 C.a] 38):=by
  have q:Below w2.heap.size w2 (w2.alloc (.cells #[.int .u8 C.r,.int .u8 C.g,.int .u8 C.b,.int .u8 C.a] 38)):=(Below.refl _ w2).alloc (Nat.le_refl _) _
  exact ⟨HW2.out.1.below q,HW2.out.2.1.below q,HW2.out.2.2.trans (q.mono HW2.out.2.2.size),by rw [hcb];exact Bk.new _ _ _⟩
 obtain ⟨y0,y1,y2,y3⟩:=HW3.out.2.2.2.at4v
 rcases HE with rfl | rfl
 ·by_cases ht:txt C=PC
  ·have hco:Hid (coL r=some C):=by unfold Hid;rw [HCo.out,if_pos ⟨rfl,ht⟩]
   subst ht
   go_wp2_with fail
   rw [← hcb]
   clear hcb
   generalize w2.alloc (.cells #[.int .u8 C.r,.int .u8 C.g,.int .u8 C.b,.int .u8 C.a] 38)=w3 at *
   refine (HTx.out _).mono ?_
   rintro e w4 ⟨rfl,hb4⟩
   have HW4:Hid (Rd w4 b s p∧Bk w4 rb #[.int .u8 0,.int .u8 0,.int .u8 0,.int .u8 0] 38∧Below w.heap.size w w4∧Bk w4 cb #[.int .u8 C.r,.int .u8 C.g,.int .u8 C.b,.int .u8 C.a] 38):=⟨HW3.out.1.below hb4,HW3.out.2.1.below hb4,HW3.out.2.2.1.trans (hb4.mono HW3.out.2.2.1.size),HW3.out.2.2.2.below hb4⟩
   clear hb4 HW3 HW2 y0 y1 y2 y3
   obtain ⟨y0,y1,y2,y3⟩:=HW4.out.2.2.2.at4v
   obtain ⟨r0,r1,r2,r3⟩:=HW4.out.2.1.at4v
   have f0:=HW4.out.2.1.frozen 0
   have f1:=HW4.out.2.1.frozen 1
   have f2:=HW4.out.2.1.frozen 2
   have f3:=HW4.out.2.1.frozen 3
   obtain ⟨d0,d1,d2⟩:=rd_cells HW4.out.1
   obtain ⟨TC,hTC⟩:∃ TC,TC=txt C:=⟨_,rfl⟩
   have hTz:(TC.size:Int)≤100000:=by have:=Hlen.out;rw [hTC];omega
   have HF:Hid (∀ W,W=((((w4.setCell ⟨b,1,none⟩ (.int .i64 ((p:Int)+TC.size))).setCell ⟨rb,0,none⟩ (.int .u8 C.r)).setCell ⟨rb,1,none⟩ (.int .u8 C.g)).setCell ⟨rb,2,none⟩ (.int .u8 C.b)).setCell ⟨rb,3,none⟩ (.int .u8 C.a)→(Rd W b s (p+(pcC r).length)∧Kp2 b b w W)∧Bk W rb #[.int .u8 C.r,.int .u8 C.g,.int .u8 C.b,.int .u8 C.a] 38):=fun W hW=>by
    subst hW
    obtain ⟨q1,q2,q3,q4⟩:=HW4.out
    have hr:=HRb.out
    have hl:=Hlen.out
    rw [← hTC] at hl
    have k1:Kp2 rb rb (w4.setCell ⟨b,1,none⟩ (.int .i64 ((p:Int)+TC.size))) (((((w4.setCell ⟨b,1,none⟩ (.int .i64 ((p:Int)+TC.size))).setCell ⟨rb,0,none⟩ (.int .u8 C.r)).setCell ⟨rb,1,none⟩ (.int .u8 C.g)).setCell ⟨rb,2,none⟩ (.int .u8 C.b)).setCell ⟨rb,3,none⟩ (.int .u8 C.a)):=(((Kp2.put _ _ _ _ _).trans (Kp2.put _ _ _ _ _)).trans (Kp2.put _ _ _ _ _)).trans (Kp2.put _ _ _ _ _)
    refine ⟨⟨?_,(Kp2.of_below (b:=b) (c:=b) q3).fresh ((Kp2.put w4 b rb _ _).trans k1.one.swap.one.swap) (by omega)⟩,((((Bk.other q2 ⟨b,1,none⟩ _ hne).put 0 _).put 1 _).put 2 _).put 3 _⟩
    refine Kp2.bk k1 ?_ hne hne
    have:=q1.put (q:=p+(pcC r).length)
    rw [show (p:Int)+TC.size=((p+(pcC r).length:Nat):Int) by omega]
    exact this
   rw [← hTC]
   clear HW4 hTC
   go_wp2
   obtain ⟨hq,hz⟩:=HF.out _ rfl
   obtain ⟨z0,z1,z2,z3⟩:=hz.at4v
   exact bodyPost_ret (v:=.tuple #[(Value.agg #[.int .u8 C.r,.int .u8 C.g,.int .u8 C.b,.int .u8 C.a]),.nilIface]) (by simp [results,Tryz.results141,go_sem,z0,z1,z2,z3]) rfl (coq_some HRr.out hco.out rfl hq.1 hq.2)
  ·have hco:Hid (coL r=none):=by unfold Hid;rw [HCo.out,if_neg (fun h=>ht h.2)]
   have ePC:((txt C).toList==PC.toList)=false:=by
    rw [beq_eq_false_iff_ne]
    intro h
    exact ht (ztx_inj.1 h)
   have ePC2:¬ (txt C).toList=PC.toList:=beq_eq_false_iff_ne.1 ePC
   go_wp2_with fail
   rw [← hcb]
   clear hcb
   generalize w2.alloc (.cells #[.int .u8 C.r,.int .u8 C.g,.int .u8 C.b,.int .u8 C.a] 38)=w3 at *
   refine (HTx.out _).mono ?_
   rintro e w4 ⟨rfl,hb4⟩
   have HWQ:Hid (Rd w4 b s p∧Bk w4 rb #[.int .u8 0,.int .u8 0,.int .u8 0,.int .u8 0] 38∧Below w.heap.size w w4∧True):=⟨HW3.out.1.below hb4,HW3.out.2.1.below hb4,HW3.out.2.2.1.trans (hb4.mono HW3.out.2.2.1.size),trivial⟩
   clear hb4 HW3 HW2 y0 y1 y2 y3 HTx
   generalize txt C=TC at *
   go_wp2_with fail
   refine (refuse_any b s p 0 ⟨#[97,32,99,111,108,111,117,114]⟩ _ HWQ.out.1 (by omega) (by decide)).mono ?_
   rintro e w5 ⟨v5,rfl,hw5,hb5⟩
   have HF0:Hid (IsW w.heap.size w5 v5 p∧Rd w5 b s p∧Below w.heap.size w w5∧Bk w5 rb #[.int .u8 0,.int .u8 0,.int .u8 0,.int .u8 0] 38∧IsW (rb+1) w5 v5 p):=by
    rw [Nat.add_zero] at hw5
    exact ⟨hw5.weaken HWQ.out.2.2.1.size,HWQ.out.1.below hb5,HWQ.out.2.2.1.trans (hb5.mono HWQ.out.2.2.1.size),HWQ.out.2.1.below hb5,hw5.weaken HWQ.out.2.1.lt⟩
   have HF:Hid (∀ W,W=(((w5.setCell ⟨rb,0,none⟩ (.int .u8 0)).setCell ⟨rb,1,none⟩ (.int .u8 0)).setCell ⟨rb,2,none⟩ (.int .u8 0)).setCell ⟨rb,3,none⟩ (.int .u8 0)→(IsW w.heap.size W v5 p∧Rd W b s p∧Kp2 b b w W)∧Bk W rb #[.int .u8 0,.int .u8 0,.int .u8 0,.int .u8 0] 38):=fun W hW=>by
    subst hW
    obtain ⟨q1,q2,q3,q4,q5⟩:=HF0.out
    have k1:Kp2 rb rb w5 ((((w5.setCell ⟨rb,0,none⟩ (.int .u8 0)).setCell ⟨rb,1,none⟩ (.int .u8 0)).setCell ⟨rb,2,none⟩ (.int .u8 0)).setCell ⟨rb,3,none⟩ (.int .u8 0)):=(((Kp2.put _ _ _ _ _).trans (Kp2.put _ _ _ _ _)).trans (Kp2.put _ _ _ _ _)).trans (Kp2.put _ _ _ _ _)
    have hr:=HRb.out
    refine ⟨⟨(q5.keep k1 (by omega) (by omega)).weaken (by omega),Kp2.bk k1 q2 hne hne,(Kp2.of_below (b:=b) (c:=b) q3).fresh k1.one.swap.one.swap (by omega)⟩,(((q4.put 0 _).put 1 _).put 2 _).put 3 _⟩
   obtain ⟨r0,r1,r2,r3⟩:=HF0.out.2.2.2.1.at4v
   have f0:=HF0.out.2.2.2.1.frozen 0
   have f1:=HF0.out.2.2.2.1.frozen 1
   have f2:=HF0.out.2.2.2.1.frozen 2
   have f3:=HF0.out.2.2.2.1.frozen 3
   clear hw5 hb5 HWQ HF0
   go_wp2
   obtain ⟨hq,hz⟩:=HF.out _ rfl
   obtain ⟨z0,z1,z2,z3⟩:=hz.at4v
   exact bodyPost_ret (v:=.tuple #[.agg #[.int .u8 0,.int .u8 0,.int .u8 0,.int .u8 0],v5]) (by simp [results,Tryz.results141,go_sem,z0,z1,z2,z3]) rfl (coq_none HRr.out hco.out rfl hq)
 ·have hco:Hid (coL r=none):=by unfold Hid;rw [HCo.out,if_neg (fun h=>absurd h.1 (by decide))]
  go_wp2_with fail
  clear hcb
  generalize w2.alloc (.cells #[.int .u8 C.r,.int .u8 C.g,.int .u8 C.b,.int .u8 C.a] 38)=w3 at *
  have HWQ:=HW3
  clear HW3 HW2 y0 y1 y2 y3 HTx
  refine (refuse_any b s p 0 ⟨#[97,32,99,111,108,111,117,114]⟩ _ HWQ.out.1 (by omega) (by decide)).mono ?_
  rintro e w5 ⟨v5,rfl,hw5,hb5⟩
  have HF0:Hid (IsW w.heap.size w5 v5 p∧Rd w5 b s p∧Below w.heap.size w w5∧Bk w5 rb #[.int .u8 0,.int .u8 0,.int .u8 0,.int .u8 0] 38∧IsW (rb+1) w5 v5 p):=by
   rw [Nat.add_zero] at hw5
   exact ⟨hw5.weaken HWQ.out.2.2.1.size,HWQ.out.1.below hb5,HWQ.out.2.2.1.trans (hb5.mono HWQ.out.2.2.1.size),HWQ.out.2.1.below hb5,hw5.weaken HWQ.out.2.1.lt⟩
  have HF:Hid (∀ W,W=(((w5.setCell ⟨rb,0,none⟩ (.int .u8 0)).setCell ⟨rb,1,none⟩ (.int .u8 0)).setCell ⟨rb,2,none⟩ (.int .u8 0)).setCell ⟨rb,3,none⟩ (.int .u8 0)→(IsW w.heap.size W v5 p∧Rd W b s p∧Kp2 b b w W)∧Bk W rb #[.int .u8 0,.int .u8 0,.int .u8 0,.int .u8 0] 38):=fun W hW=>by
   subst hW
   obtain ⟨q1,q2,q3,q4,q5⟩:=HF0.out
   have k1:Kp2 rb rb w5 ((((w5.setCell ⟨rb,0,none⟩ (.int .u8 0)).setCell ⟨rb,1,none⟩ (.int .u8 0)).setCell ⟨rb,2,none⟩ (.int .u8 0)).setCell ⟨rb,3,none⟩ (.int .u8 0)):=(((Kp2.put _ _ _ _ _).trans (Kp2.put _ _ _ _ _)).trans (Kp2.put _ _ _ _ _)).trans (Kp2.put _ _ _ _ _)
   have hr:=HRb.out
   refine ⟨⟨(q5.keep k1 (by omega) (by omega)).weaken (by omega),Kp2.bk k1 q2 hne hne,(Kp2.of_below (b:=b) (c:=b) q3).fresh k1.one.swap.one.swap (by omega)⟩,(((q4.put 0 _).put 1 _).put 2 _).put 3 _⟩
  obtain ⟨r0,r1,r2,r3⟩:=HF0.out.2.2.2.1.at4v
  have f0:=HF0.out.2.2.2.1.frozen 0
  have f1:=HF0.out.2.2.2.1.frozen 1
  have f2:=HF0.out.2.2.2.1.frozen 2
  have f3:=HF0.out.2.2.2.1.frozen 3
  clear hw5 hb5 HWQ HF0
  go_wp2
  obtain ⟨hq,hz⟩:=HF.out _ rfl
  obtain ⟨z0,z1,z2,z3⟩:=hz.at4v
  exact bodyPost_ret (v:=.tuple #[.agg #[.int .u8 0,.int .u8 0,.int .u8 0,.int .u8 0],v5]) (by simp [results,Tryz.results141,go_sem,z0,z1,z2,z3]) rfl (coq_none HRr.out hco.out rfl hq)
end Go.Proofs.YtapachlhdgehjaaGreatDoor

/- Contracts of package vector's reader: escaped. -/
namespace Go.Proofs.YtapachlhdgehjaaGreatDoor
open Go.RowKit
theorem vpF_err (s:ByteArray):∀ (f p:Nat) (acc:List UInt8),p≤s.size→((vpF s f p acc).2.2=0∨(vpF s f p acc).2.2=160)∧(vpF s f p acc).2.1≤s.size
 | 0,p,acc,_=>⟨.inl rfl,Nat.zero_le _⟩
 | f+1,p,acc,hp=>by
  rw [vpF]
  split
  ·exact ⟨.inl rfl,Nat.zero_le _⟩
  ·split
   ·exact ⟨.inr rfl,hp⟩
   ·next h0=>exact vpF_err s f _ _ ((fsP_bd s p).2.2 h0)
theorem vpA_err (s:ByteArray):((vpA s).2.2=0∨(vpA s).2.2=160)∧(vpA s).2.1≤s.size:=vpF_err s _ 0 [] (Nat.zero_le _)
def pcE (r:List UInt8):List UInt8:=(Lib.cut r [60]).1
theorem pcE_len (r:List UInt8):(pcE r).length≤r.length:=by
 unfold pcE Lib.cut
 split
 ·simp [List.length_take]
  omega
 ·exact Nat.le_refl _
def esA (r:List UInt8):List UInt8 × Nat × Int:=vpA ⟨(pcE r).toArray⟩
def EsQ (b:Nat) (s:ByteArray) (p:Nat) (w:World) (e:Ending) (w':World):Prop :=
 ((esA (rsL s p)).2.2=0→e = .returned (.tuple #[.string ⟨(esA (rsL s p)).1.toArray⟩,.nilIface])∧Rd w' b s (p+(pcE (rsL s p)).length)∧Kp2 b b w w') ∧
 (¬ (esA (rsL s p)).2.2=0→∃ v,e = .returned (.tuple #[.string ⟨#[]⟩,v])∧IsW w.heap.size w' v (p+(esA (rsL s p)).2.1)∧Rd w' b s p∧Kp2 b b w w')
set_option maxRecDepth 10000 in
set_option maxHeartbeats 8000000 in
theorem escaped_any (B b:Nat) (s:ByteArray) (p:Nat) (w:World) (h:Rd w b s p) (hp:p≤s.size) (hs:s.size≤100000) (hE:EnR B w) (hB:B≤b) :
  Calls Tryz.prog 142 #[.pointer (some ⟨b,0,none⟩)] w fun e w'=>EsQ b s p w e w':=by
 have hBw:B≤w.heap.size:=by have:=Bk.lt h;omega
 obtain ⟨r,hr⟩:∃ r,r=rsL s p:=⟨_,rfl⟩
 have hrl:(pcE r).length≤s.size - p:=by
  have:=pcE_len r
  have e:r.length=s.size - p:=by rw [hr];unfold rsL;simp
  omega
 have HEs:Hid (∀ e w',((esA r).2.2=0→e = .returned (.tuple #[.string ⟨(esA r).1.toArray⟩,.nilIface])∧Rd w' b s (p+(pcE r).length)∧Kp2 b b w w')→(¬ (esA r).2.2=0→∃ v,e = .returned (.tuple #[.string ⟨#[]⟩,v])∧IsW w.heap.size w' v (p+(esA r).2.1)∧Rd w' b s p∧Kp2 b b w w')→EsQ b s p w e w'):=fun e w' h1 h2=>by
  subst hr
  exact ⟨h1,h2⟩
 obtain ⟨PC,hPC⟩:∃ PC:ByteArray,PC=⟨(pcE r).toArray⟩:=⟨_,rfl⟩
 have hPz:PC.size=(pcE r).length:=by rw [hPC];simp [ByteArray.size]
 have HCut:Hid (∀ W,Below w.heap.size w W→Calls Tryz.prog 97 #[.string (s.extract p s.size),.string ⟨#[60]⟩] W fun e w'=>(e = .returned (.tuple #[.string PC,.string ⟨(Lib.cut r [60]).2.1.toArray⟩,.bool (Lib.cut r [60]).2.2]))∧Below W.heap.size W w'):=fun W hb=>by
  obtain ⟨m,hm⟩:=(hE.on (hb.mono hBw)).here.ml
  have q:=Any.strings_Cut { Tryz.laysM145 with } (s.extract p s.size) ⟨#[60]⟩ m W (by simp;omega) hm
  refine q.mono ?_
  rintro e w' ⟨rfl,n,rfl⟩
  refine ⟨?_,bdrw W n⟩
  rw [rsL_ext,← hr,hPC]
  rfl
 have HPl:Hid (∀ W,Calls Tryz.prog 168 #[.string PC] W fun e w'=>e = .returned (.tuple #[.string ⟨(esA r).1.toArray⟩,.int .i64 ((esA r).2.1:Nat),.int .i64 (esA r).2.2])∧Below W.heap.size W w'):=fun W=>by
  have:=vplain_any PC W (by omega)
  unfold esA
  rw [← hPC]
  exact this
 have HA:((esA r).2.2=0∨(esA r).2.2=160)∧(esA r).2.1≤PC.size:=by
  unfold esA
  rw [← hPC]
  exact vpA_err PC
 have hp':(p:Int)≤s.size:=by omega
 have ne:Nonempty (Gw w):=⟨⟨w,Below.refl _ _⟩⟩
 have c0:=fun t=>(gwRd h t).1
 have c1:=fun t=>(gwRd h t).2
 have HH:Hid (Rd w b s p):=h
 have Hlen:Hid (PC.size=(pcE r).length∧PC.size≤100000):=⟨hPz,by omega⟩
 have hpz:(PC.size:Int)≤100000:=by omega
 obtain ⟨hA1,hA2⟩:=HA
 generalize (Lib.cut r [60]).2.1=cr at *
 generalize (Lib.cut r [60]).2.2=cf at *
 generalize esA r=A at *
 obtain ⟨tx,at_,er⟩:=A
 simp only at HEs HPl hA1 hA2
 clear hPC hPz hr hrl h hE
 go_enter Tryz.func142,Tryz.ntmps142
 go_wp2_with fail
 refine wp_region_gw (by kernel_rfl) (by kernel_rfl) ?_
 repeat (go_big_quiet_step (first | (go_at_call 97;exact gw_call (HCut.out _ (Gw.below _)))))
 refine wpQuiet_nil ?_
 rintro _ ⟨t,rfl⟩
 have HW1:Hid (Rd t.wd b s p∧Below w.heap.size w t.wd):=⟨HH.out.below t.below,t.below⟩
 generalize t.wd=w1 at *
 clear c0 c1 ne HCut HH
 go_wp2_with fail
 refine (HPl.out _).mono ?_
 rintro e w2 ⟨rfl,hb2⟩
 have HW2:Hid (Rd w2 b s p∧Below w.heap.size w w2):=⟨HW1.out.1.below hb2,HW1.out.2.trans (hb2.mono HW1.out.2.size)⟩
 clear hb2 HW1 HPl
 rcases hA1 with rfl | rfl
 ·obtain ⟨d0,d1,d2⟩:=rd_cells HW2.out.1
  have HF:Hid (∀ W,W=w2.setCell ⟨b,1,none⟩ (.int .i64 ((p:Int)+PC.size))→Rd W b s (p+(pcE r).length)∧Kp2 b b w W):=fun W hW=>by
   subst hW
   refine ⟨?_,(Kp2.of_below HW2.out.2).trans (Kp2.put _ _ _ _ _)⟩
   have:=HW2.out.1.put (q:=p+(pcE r).length)
   rw [show (p:Int)+PC.size=((p+(pcE r).length:Nat):Int) by have:=Hlen.out;omega]
   exact this
  clear HW2
  go_wp2
  go_ret2
  exact HEs.out _ _ (fun _=>⟨rfl,HF.out _ rfl⟩) (fun h=>by first | exact absurd rfl h | exact absurd trivial h)
 ·obtain ⟨d0,d1,d2⟩:=rd_cells HW2.out.1
  go_wp2_with fail
  refine (refuse_any b s p at_ ⟨#[97,110,32,101,115,99,97,112,101,100,32,116,101,120,116]⟩ _ HW2.out.1 (by omega) (by omega)).mono ?_
  rintro e w5 ⟨v5,rfl,hw5,hb5⟩
  have HF:Hid (IsW w.heap.size w5 v5 (p+at_)∧Rd w5 b s p∧Kp2 b b w w5):=⟨hw5.weaken HW2.out.2.size,HW2.out.1.below hb5,Kp2.of_below (HW2.out.2.trans (hb5.mono HW2.out.2.size))⟩
  clear hw5 hb5 HW2 d0 d1 d2
  go_wp2
  go_ret2
  exact HEs.out _ _ (fun h=>absurd h (by decide)) (fun _=>⟨_,rfl,HF.out⟩)
end Go.Proofs.YtapachlhdgehjaaGreatDoor
