/-
  Texts of this claim, one behind the other: what each is about stands ahead of it.
-/
import Derived.Test.YtapachlhdgehjaaGreatDoorK34
import Derived.Test.YtapachlhdgehjaaGreatDoorK31
/- Contracts of package vector's reader: number. -/
namespace Go.Proofs.YtapachlhdgehjaaGreatDoor
open Go.RowKit
structure EnI (w:World):Prop where
 pw:PwI w
 sy:∃ ev,w.cell? ⟨8,0,none⟩=some ev∧(ev = .nilIface∨∃ te pe,ev = .iface te pe)
 ra:∃ ev,w.cell? ⟨9,0,none⟩=some ev∧(ev = .nilIface∨∃ te pe,ev = .iface te pe)
 ml:∃ m,w.cell? ⟨6,0,none⟩=some (.int .i64 m)
def EnR (B:Nat) (w:World):Prop:=∀ w',Below B w w'→EnI w'
theorem EnR.here {B:Nat} {w:World} (h:EnR B w):EnI w:=h w (Below.refl _ _)
theorem EnR.on {B:Nat} {w w1:World} (h:EnR B w) (hb:Below B w w1):EnR B w1:=fun w' hb'=>h w' (hb.trans hb')
theorem EnR.mono {B C:Nat} {w:World} (h:EnR B w) (hl:B≤C):EnR C w:=fun w' hb=>h w' (hb.mono hl)
theorem atoi_ok (q:ByteArray) (n:Int) (w:World) (hq:q.size≤1000000) (h:Lib.atoiAll q.data.toList = .ok n) :
  Calls Tryz.prog 165 #[.string q] w fun e w'=>∃ ev,e = .returned (.tuple #[.int .i64 n,ev])∧ev = .nilIface∧Below w.heap.size w w':=by
 refine (Any.strconv_Atoi_ok Tryz.laysC172 q (by omega) n h w).mono ?_
 rintro e w' ⟨rfl,hw⟩
 refine ⟨_,rfl,rfl,?_⟩
 rcases hw with rfl | ⟨t,rfl⟩
 ·exact Below.refl _ _
 ·exact Lib.bytesWorld_below _ _ _
theorem atoi_no (q:ByteArray) (w:World) (hq:q.size≤1000000) (hE:EnI w) (h:∀ n,Lib.atoiAll q.data.toList≠.ok n) :
  Calls Tryz.prog 165 #[.string q] w fun e w'=>∃ n p,e = .returned (.tuple #[.int .i64 n,.iface 277 p])∧I64 n∧Below w.heap.size w w':=by
 rcases hc:Lib.atoiAll q.data.toList with n | _ | _
 ·exact absurd hc (h n)
 ·obtain ⟨ev,h1,h2⟩:=hE.sy
  refine (Any.strconv_Atoi_syntax Tryz.laysC172 q (by omega) hc ev w h1 h2).mono ?_
  rintro e w' ⟨N,rfl,_,_,hb⟩
  exact ⟨0,_,rfl,z64,hb⟩
 ·obtain ⟨ev,h1,h2⟩:=hE.ra
  refine (Any.strconv_Atoi_range Tryz.laysC172 q (by omega) hc ev w h1 h2).mono ?_
  rintro e w' ⟨N,rfl,_,_,hb⟩
  exact ⟨_,_,rfl,Lib.atoiSat_bounds _,hb⟩
theorem itoaC_any (n:Int) (w:World) (h:I64 n) (hE:EnI w) :
  Calls Tryz.prog 116 #[.int .i64 n] w fun e w'=>e = .returned (.string ⟨(Lib.itoa n).toArray⟩)∧Below w.heap.size w w':=by
 refine (Any.strconv_Itoa Tryz.laysM171 n h.1 h.2 w hE.pw).mono ?_
 rintro e w' ⟨rfl,k,os,rfl⟩
 exact ⟨rfl,Lib.below_grow _ w (Nat.le_refl _) k os⟩
def dgB (c:Nat):Bool:=decide (48≤c)&&decide (c≤57)
set_option maxHeartbeats 1000000 in
theorem isDigit_any (c:Nat) (w:World) (hc:c<256) :
  Calls Tryz.prog 164 #[.int .u8 ((c:Nat):Int)] w fun e w'=>e = .returned (.bool (dgB c))∧w'=w:=by
 go_enter Tryz.func164,Tryz.ntmps164
 go_wp2
 all_goals
  go_ret
  refine ⟨ret_bool ?_,rfl⟩
  simp [dgB]
  try omega
def sgN (r:List UInt8):Nat:=if Lib.hasPrefix r [45]=true then 1 else 0
def dgN (r:List UInt8):Nat:=rnO dgB (r.drop (sgN r))
def pcN (r:List UInt8):List UInt8:=r.take (sgN r+dgN r)
def nuL (r:List UInt8):Option Int:=if 9<dgN r then none else match Lib.atoiAll (pcN r) with
 | .ok n=>if Lib.itoa n=pcN r then some n else none
 | _=>none
theorem ext_drop (Q:ByteArray) (k:Nat):(Q.extract k Q.size).data.toList=Q.data.toList.drop k:=rsL_ext Q k
theorem ext_take (Q:ByteArray) (k:Nat):(Q.extract 0 k).data.toList=Q.data.toList.take k:=by
 rw [ByteArray.data_extract,Array.toList_extract,List.extract_eq_take_drop]
 simp
def NuQ (b:Nat) (s:ByteArray) (p:Nat) (w:World) (e:Ending) (w':World):Prop :=
 match nuL (rsL s p) with
 | some n=>e = .returned (.tuple #[.int .i64 n,.nilIface])∧Rd w' b s (p+(pcN (rsL s p)).length)∧Kp2 b b w w'
 | none=>∃ v,e = .returned (.tuple #[.int .i64 0,v])∧IsW w.heap.size w' v p∧Rd w' b s p∧Kp2 b b w w'
end Go.Proofs.YtapachlhdgehjaaGreatDoor

/- Contracts of package vector's reader: number, walked. -/
namespace Go.Proofs.YtapachlhdgehjaaGreatDoor
open Go.RowKit
theorem rd_cells {W:World} {b:Nat} {s:ByteArray} {p:Nat} (h:Rd W b s p):W.cell? ⟨b,0,none⟩=some (.string s)∧W.cell? ⟨b,1,none⟩=some (.int .i64 p)∧W.frozen? ⟨b,1,none⟩=false:=by
 have c0:=Bk.cell h 0
 have c1:=Bk.cell h 1
 simp only [List.getElem?_toArray,List.getElem?_cons_zero,List.getElem?_cons_succ] at c0 c1
 exact ⟨c0,c1,Bk.frozen h 1⟩
theorem pcN_len (r:List UInt8):(pcN r).length=sgN r+dgN r:=by
 have h1:dgN r≤r.length - sgN r:=by
  have:=rnO_le dgB (r.drop (sgN r))
  unfold dgN
  simpa using this
 have h2:sgN r≤r.length:=by
  unfold sgN
  split
  ·next h =>
   cases r with
   | nil=>simp [Lib.hasPrefix] at h
   | cons _ _=>simp
  ·omega
 unfold pcN
 rw [List.length_take]
 omega
theorem nuq_some {b:Nat} {s:ByteArray} {p:Nat} {w w':World} {e:Ending} {n:Int} {r:List UInt8} (hr:r=rsL s p) (h:nuL r=some n) (he:e = .returned (.tuple #[.int .i64 n,.nilIface])) (h1:Rd w' b s (p+(pcN r).length)) (h2:Kp2 b b w w'):NuQ b s p w e w':=by
 subst hr
 unfold NuQ
 rw [h]
 exact ⟨he,h1,h2⟩
theorem nuq_none {b:Nat} {s:ByteArray} {p:Nat} {w w':World} {e:Ending} {v:Value} {r:List UInt8} (hr:r=rsL s p) (h:nuL r=none) (he:e = .returned (.tuple #[.int .i64 0,v])) (h1:IsW w.heap.size w' v p∧Rd w' b s p∧Kp2 b b w w'):NuQ b s p w e w':=by
 subst hr
 unfold NuQ
 rw [h]
 exact ⟨v,he,h1⟩
set_option maxRecDepth 10000 in
set_option maxHeartbeats 8000000 in
theorem number_any (B b:Nat) (s:ByteArray) (p:Nat) (w:World) (h:Rd w b s p) (hp:p≤s.size) (hs:s.size≤100000) (hE:EnR B w) (hB:B≤b) :
  Calls Tryz.prog 140 #[.pointer (some ⟨b,0,none⟩)] w fun e w'=>NuQ b s p w e w':=by
 obtain ⟨Q,hQ⟩:∃ Q,Q=s.extract p s.size:=⟨_,rfl⟩
 have hQl:Q.data.toList=rsL s p:=by rw [hQ];exact rsL_ext s p
 have hQz:Q.size=s.size - p:=by rw [hQ];simp
 have HPx:Hid (∀ W,Calls Tryz.prog 104 #[.string Q,.string ⟨#[45]⟩] W fun e w'=>e = .returned (.bool (Lib.hasPrefix (rsL s p) [45]))∧w'=W):=fun W=>by
  have:=Any.strings_HasPrefix Tryz.lays99 Q ⟨#[45]⟩ W
  rw [hQl] at this
  exact this
 have ne:Nonempty (Gw w):=⟨⟨w,Below.refl _ _⟩⟩
 have c0:=fun t=>(gwRd h t).1
 have c1:=fun t=>(gwRd h t).2
 have hp':(p:Int)≤s.size:=by omega
 have HH:Hid (Rd w b s p∧EnR B w∧B≤b∧b<w.heap.size):=⟨h,hE,hB,Bk.lt h⟩
 obtain ⟨r,hr⟩:∃ r,r=rsL s p:=⟨_,rfl⟩
 have HRr:Hid (r=rsL s p):=hr
 rw [← hr] at hQl HPx
 have hdl:sgN r+dgN r≤Q.size:=by
  rw [← pcN_len,← hQl]
  unfold pcN
  rw [List.length_take]
  have:Q.data.toList.length=Q.size:=by simp
  omega
 have hlen:=pcN_len r
 have HRu:Hid (∀ W,Calls Tryz.prog 138 #[.string (Q.extract (sgN r) Q.size),.func (.func 164) #[] #[]] W fun e w'=>e = .returned (.int .i64 (dgN r))∧w'=W):=fun W=>by
  have:=runOf_any 164 dgB (Q.extract (sgN r) Q.size) W (by simp;omega) (enters_of Tryz.func164 (by kernel_rfl) rfl) isDigit_any
  rw [ext_drop,hQl] at this
  exact this
 obtain ⟨PC,hPC⟩:∃ PC,PC=Q.extract 0 (sgN r+dgN r):=⟨_,rfl⟩
 have hPl:PC.data.toList=pcN r:=by rw [hPC,ext_take,hQl];rfl
 have hPz:PC.size=sgN r+dgN r:=by
  have:PC.data.toList.length=PC.size:=by simp
  rw [← this,hPl,hlen]
 have HAo:Hid (∀ n W,Lib.atoiAll (pcN r) = .ok n→Calls Tryz.prog 165 #[.string PC] W fun e w'=>∃ ev,e = .returned (.tuple #[.int .i64 n,ev])∧ev = .nilIface∧Below W.heap.size W w'):=fun n W h=>atoi_ok PC n W (by omega) (by rw [hPl];exact h)
 have HAn:Hid (∀ W,EnI W→(∀ n,Lib.atoiAll (pcN r)≠.ok n)→Calls Tryz.prog 165 #[.string PC] W fun e w'=>∃ n q,e = .returned (.tuple #[.int .i64 n,.iface 277 q])∧I64 n∧Below W.heap.size W w'):=fun W hE h=>atoi_no PC W (by omega) hE (by rw [hPl];exact h)
 have HPe:Hid (∀ n,((⟨(Lib.itoa n).toArray⟩:ByteArray)=PC↔Lib.itoa n=pcN r)):=fun n=>by
  rw [← hPl]
  constructor
  ·intro h;rw [← h]
  ·intro h;apply ByteArray.ext;apply Array.ext';simpa using h
 obtain ⟨d,hd⟩:∃ d,d=dgN r:=⟨_,rfl⟩
 cases hsg:Lib.hasPrefix r [45] with
 | true =>
  have es:sgN r=1:=by unfold sgN;rw [if_pos hsg]
  rw [hsg] at HPx
  rw [es,← hd] at hPC hdl hPz hlen
  rw [es,← hd] at HRu
  have hdl':1+(d:Int)≤Q.size:=by omega
  have hd0:(d:Int)≤100000:=by omega
  have HPC:=show Hid _ from hPC
  have HPz:=show Hid _ from hPz
  have Hd:=show Hid _ from hd
  have Hlen:=show Hid _ from hlen
  clear hsg hPC hPz hd hlen hPl hQl hQz hdl es hr
  go_enter Tryz.func140,Tryz.ntmps140
  go_wp2_with fail
  refine wp_region_gw (by kernel_rfl) (by kernel_rfl) ?_
  repeat (go_big_quiet_step (fail))
  refine wpQuiet_nil ?_
  rintro _ ⟨t,rfl⟩
  rw [← hQ]
  clear hQ
  have HW1:Hid (Rd t.wd b s p∧EnR B t.wd∧Below w.heap.size w t.wd):=⟨HH.out.1.below t.below,HH.out.2.1.on (t.below.mono (by have:=HH.out;omega)),t.below⟩
  generalize t.wd=w1 at *
  clear c0 c1 ne
  go_wp2_with fail
  refine (HPx.out _).mono ?_
  rintro e w' ⟨rfl,hw⟩
  obtain rfl:=hw.symm
  go_wp2_with fail
  refine (HRu.out _).mono ?_
  rintro e w' ⟨rfl,hw⟩
  obtain rfl:=hw.symm
  have HW2:=HW1
  clear HW1 HPx HRu
  by_cases h9:9<d
  ·have h9':9<(d:Int):=by omega
   have hnu:Hid (nuL r=none):=by unfold Hid nuL;rw [if_pos (by rw [← Hd.out];exact h9)]
   by_cases hok:∃ n,Lib.atoiAll (pcN r) = .ok n
   ·obtain ⟨n,hok⟩:=hok
    go_wp2_with fail
    rw [← HPC.out]
    refine (HAo.out n _ hok).mono ?_
    rintro e w4 ⟨ev,rfl,rfl,hb4⟩
    have HW3:Hid (Rd w4 b s p∧EnR B w4∧Below w.heap.size w w4):=⟨HW2.out.1.below hb4,HW2.out.2.1.on (hb4.mono (Nat.le_trans (by have:=HH.out;omega) HW2.out.2.2.size)),HW2.out.2.2.trans (hb4.mono HW2.out.2.2.size)⟩
    clear hb4 HW2
    obtain ⟨c0',c1',c2'⟩:=rd_cells HW3.out.1
    go_wp2_with fail
    refine (refuse_any b s p 0 ⟨#[97,32,110,117,109,98,101,114]⟩ _ HW3.out.1 (by omega) (by decide)).mono ?_
    rintro e w5 ⟨v5,rfl,hw5,hb5⟩
    have HF:Hid (IsW w.heap.size w5 v5 p∧Rd w5 b s p∧Kp2 b b w w5):=⟨by have:=hw5.weaken HW3.out.2.2.size;rwa [Nat.add_zero] at this,HW3.out.1.below hb5,Kp2.of_below (HW3.out.2.2.trans (hb5.mono HW3.out.2.2.size))⟩
    clear hw5 hb5 HW3 c0' c1' c2'
    go_wp2
    go_ret2
    exact nuq_none HRr.out hnu.out rfl HF.out
   ·go_wp2_with fail
    rw [← HPC.out]
    refine (HAn.out _ HW2.out.2.1.here (fun n hn=>hok ⟨n,hn⟩)).mono ?_
    rintro e w4 ⟨n4,q4,rfl,hn4,hb4⟩
    have HW3:Hid (Rd w4 b s p∧EnR B w4∧Below w.heap.size w w4):=⟨HW2.out.1.below hb4,HW2.out.2.1.on (hb4.mono (Nat.le_trans (by have:=HH.out;omega) HW2.out.2.2.size)),HW2.out.2.2.trans (hb4.mono HW2.out.2.2.size)⟩
    clear hb4 HW2
    obtain ⟨c0',c1',c2'⟩:=rd_cells HW3.out.1
    go_wp2_with fail
    refine (refuse_any b s p 0 ⟨#[97,32,110,117,109,98,101,114]⟩ _ HW3.out.1 (by omega) (by decide)).mono ?_
    rintro e w5 ⟨v5,rfl,hw5,hb5⟩
    have HF:Hid (IsW w.heap.size w5 v5 p∧Rd w5 b s p∧Kp2 b b w w5):=⟨by have:=hw5.weaken HW3.out.2.2.size;rwa [Nat.add_zero] at this,HW3.out.1.below hb5,Kp2.of_below (HW3.out.2.2.trans (hb5.mono HW3.out.2.2.size))⟩
    clear hw5 hb5 HW3 c0' c1' c2'
    go_wp2
    go_ret2
    exact nuq_none HRr.out hnu.out rfl HF.out
  have h9':¬ (9<(d:Int)):=by omega
  by_cases hok':¬ ∃ n,Lib.atoiAll (pcN r) = .ok n
  ·have hnu:Hid (nuL r=none):=by
    unfold Hid nuL
    rw [if_neg (by rw [← Hd.out];exact h9)]
    rcases hc:Lib.atoiAll (pcN r) with n | _ | _
    ·exact absurd ⟨n,hc⟩ hok'
    ·rfl
    ·rfl
   go_wp2_with fail
   rw [← HPC.out]
   refine (HAn.out _ HW2.out.2.1.here (fun n hn=>hok' ⟨n,hn⟩)).mono ?_
   rintro e w4 ⟨n4,q4,rfl,hn4,hb4⟩
   have HW3:Hid (Rd w4 b s p∧EnR B w4∧Below w.heap.size w w4):=⟨HW2.out.1.below hb4,HW2.out.2.1.on (hb4.mono (Nat.le_trans (by have:=HH.out;omega) HW2.out.2.2.size)),HW2.out.2.2.trans (hb4.mono HW2.out.2.2.size)⟩
   clear hb4 HW2
   obtain ⟨c0',c1',c2'⟩:=rd_cells HW3.out.1
   go_wp2_with fail
   refine (refuse_any b s p 0 ⟨#[97,32,110,117,109,98,101,114]⟩ _ HW3.out.1 (by omega) (by decide)).mono ?_
   rintro e w5 ⟨v5,rfl,hw5,hb5⟩
   have HF:Hid (IsW w.heap.size w5 v5 p∧Rd w5 b s p∧Kp2 b b w w5):=⟨by have:=hw5.weaken HW3.out.2.2.size;rwa [Nat.add_zero] at this,HW3.out.1.below hb5,Kp2.of_below (HW3.out.2.2.trans (hb5.mono HW3.out.2.2.size))⟩
   clear hw5 hb5 HW3 c0' c1' c2'
   go_wp2
   go_ret2
   exact nuq_none HRr.out hnu.out rfl HF.out
  have hok:=Classical.not_not.1 hok'
  obtain ⟨n,hok⟩:=hok
  have hnb:I64 n:=Lib.atoiAll_bounds hok
  have hn0:=hnb.1
  have hn1:=hnb.2
  go_wp2_with fail
  rw [← HPC.out]
  refine (HAo.out n _ hok).mono ?_
  rintro e w4 ⟨ev,rfl,rfl,hb4⟩
  have HW3:Hid (Rd w4 b s p∧EnR B w4∧Below w.heap.size w w4):=⟨HW2.out.1.below hb4,HW2.out.2.1.on (hb4.mono (Nat.le_trans (by have:=HH.out;omega) HW2.out.2.2.size)),HW2.out.2.2.trans (hb4.mono HW2.out.2.2.size)⟩
  clear hb4 HW2
  go_wp2_with fail
  refine (itoaC_any n _ hnb HW3.out.2.1.here).mono ?_
  rintro e w5 ⟨rfl,hb5⟩
  have HW4:Hid (Rd w5 b s p∧EnR B w5∧Below w.heap.size w w5):=⟨HW3.out.1.below hb5,HW3.out.2.1.on (hb5.mono (Nat.le_trans (by have:=HH.out;omega) HW3.out.2.2.size)),HW3.out.2.2.trans (hb5.mono HW3.out.2.2.size)⟩
  clear hb5 HW3
  have HPen:=HPe.out n
  by_cases hit:Lib.itoa n=pcN r
  ·have hnu:Hid (nuL r=some n):=by unfold Hid nuL;rw [if_neg (by rw [← Hd.out];exact h9),hok];simp [hit]
   obtain rfl:=HPen.2 hit
   obtain ⟨c0',c1',c2'⟩:=rd_cells HW4.out.1
   have HF:Hid (∀ W,W=w5.setCell ⟨b,1,none⟩ (.int .i64 ((p:Int)+(pcN r).length))→Rd W b s (p+(pcN r).length)∧Kp2 b b w W):=fun W hW=>by
    subst hW
    refine ⟨?_,(Kp2.of_below HW4.out.2.2).trans (Kp2.put _ _ _ _ _)⟩
    have:=HW4.out.1.put (q:=p+(pcN r).length)
    rw [show (p:Int)+(pcN r).length=((p+(pcN r).length:Nat):Int) by omega]
    exact this
   have hpz:((pcN r).length:Int)≤100001:=by have:=Hlen.out;omega
   clear HPen HW4
   go_wp2
   go_ret2
   exact nuq_some HRr.out hnu.out rfl (HF.out _ rfl).1 (HF.out _ rfl).2
  ·have hnu:Hid (nuL r=none):=by unfold Hid nuL;rw [if_neg (by rw [← Hd.out];exact h9),hok];simp [hit]
   have ePC:(Lib.itoa n==PC.toList)=false:=by
    rw [beq_eq_false_iff_ne,ztx_list]
    intro h
    exact hit (HPen.1 (by apply ByteArray.ext;apply Array.ext';simpa using h))
   have ePC2:¬ Lib.itoa n=PC.toList:=beq_eq_false_iff_ne.1 ePC
   have HW3:=HW4
   clear HW4 HPen
   obtain ⟨c0',c1',c2'⟩:=rd_cells HW3.out.1
   go_wp2_with fail
   refine (refuse_any b s p 0 ⟨#[97,32,110,117,109,98,101,114]⟩ _ HW3.out.1 (by omega) (by decide)).mono ?_
   rintro e w5 ⟨v5,rfl,hw5,hb5⟩
   have HF:Hid (IsW w.heap.size w5 v5 p∧Rd w5 b s p∧Kp2 b b w w5):=⟨by have:=hw5.weaken HW3.out.2.2.size;rwa [Nat.add_zero] at this,HW3.out.1.below hb5,Kp2.of_below (HW3.out.2.2.trans (hb5.mono HW3.out.2.2.size))⟩
   clear hw5 hb5 HW3 c0' c1' c2'
   go_wp2
   go_ret2
   exact nuq_none HRr.out hnu.out rfl HF.out
 | false =>
  have es:sgN r=0:=by unfold sgN;rw [if_neg (by simp [hsg])]
  rw [hsg] at HPx
  rw [es,← hd] at hPC hdl hPz hlen
  rw [es,← hd] at HRu
  rw [Nat.zero_add] at hPC hdl
  rw [show Q.extract 0 Q.size=Q from ByteArray.ext (Array.ext' (by rw [ext_drop];rfl))] at HRu
  have hdl':(d:Int)≤Q.size:=by omega
  have hd0:(d:Int)≤100000:=by omega
  have HPC:=show Hid _ from hPC
  have HPz:=show Hid _ from hPz
  have Hd:=show Hid _ from hd
  have Hlen:=show Hid _ from hlen
  clear hsg hPC hPz hd hlen hPl hQl hQz hdl es hr
  go_enter Tryz.func140,Tryz.ntmps140
  go_wp2_with fail
  refine wp_region_gw (by kernel_rfl) (by kernel_rfl) ?_
  repeat (go_big_quiet_step (fail))
  refine wpQuiet_nil ?_
  rintro _ ⟨t,rfl⟩
  rw [← hQ]
  clear hQ
  have HW1:Hid (Rd t.wd b s p∧EnR B t.wd∧Below w.heap.size w t.wd):=⟨HH.out.1.below t.below,HH.out.2.1.on (t.below.mono (by have:=HH.out;omega)),t.below⟩
  generalize t.wd=w1 at *
  clear c0 c1 ne
  go_wp2_with fail
  refine (HPx.out _).mono ?_
  rintro e w' ⟨rfl,hw⟩
  obtain rfl:=hw.symm
  go_wp2_with fail
  refine (HRu.out _).mono ?_
  rintro e w' ⟨rfl,hw⟩
  obtain rfl:=hw.symm
  have HW2:=HW1
  clear HW1 HPx HRu
  by_cases h9:9<d
  ·have h9':9<(d:Int):=by omega
   have hnu:Hid (nuL r=none):=by unfold Hid nuL;rw [if_pos (by rw [← Hd.out];exact h9)]
   by_cases hok:∃ n,Lib.atoiAll (pcN r) = .ok n
   ·obtain ⟨n,hok⟩:=hok
    go_wp2_with fail
    rw [← HPC.out]
    refine (HAo.out n _ hok).mono ?_
    rintro e w4 ⟨ev,rfl,rfl,hb4⟩
    have HW3:Hid (Rd w4 b s p∧EnR B w4∧Below w.heap.size w w4):=⟨HW2.out.1.below hb4,HW2.out.2.1.on (hb4.mono (Nat.le_trans (by have:=HH.out;omega) HW2.out.2.2.size)),HW2.out.2.2.trans (hb4.mono HW2.out.2.2.size)⟩
    clear hb4 HW2
    obtain ⟨c0',c1',c2'⟩:=rd_cells HW3.out.1
    go_wp2_with fail
    refine (refuse_any b s p 0 ⟨#[97,32,110,117,109,98,101,114]⟩ _ HW3.out.1 (by omega) (by decide)).mono ?_
    rintro e w5 ⟨v5,rfl,hw5,hb5⟩
    have HF:Hid (IsW w.heap.size w5 v5 p∧Rd w5 b s p∧Kp2 b b w w5):=⟨by have:=hw5.weaken HW3.out.2.2.size;rwa [Nat.add_zero] at this,HW3.out.1.below hb5,Kp2.of_below (HW3.out.2.2.trans (hb5.mono HW3.out.2.2.size))⟩
    clear hw5 hb5 HW3 c0' c1' c2'
    go_wp2
    go_ret2
    exact nuq_none HRr.out hnu.out rfl HF.out
   ·go_wp2_with fail
    rw [← HPC.out]
    refine (HAn.out _ HW2.out.2.1.here (fun n hn=>hok ⟨n,hn⟩)).mono ?_
    rintro e w4 ⟨n4,q4,rfl,hn4,hb4⟩
    have HW3:Hid (Rd w4 b s p∧EnR B w4∧Below w.heap.size w w4):=⟨HW2.out.1.below hb4,HW2.out.2.1.on (hb4.mono (Nat.le_trans (by have:=HH.out;omega) HW2.out.2.2.size)),HW2.out.2.2.trans (hb4.mono HW2.out.2.2.size)⟩
    clear hb4 HW2
    obtain ⟨c0',c1',c2'⟩:=rd_cells HW3.out.1
    go_wp2_with fail
    refine (refuse_any b s p 0 ⟨#[97,32,110,117,109,98,101,114]⟩ _ HW3.out.1 (by omega) (by decide)).mono ?_
    rintro e w5 ⟨v5,rfl,hw5,hb5⟩
    have HF:Hid (IsW w.heap.size w5 v5 p∧Rd w5 b s p∧Kp2 b b w w5):=⟨by have:=hw5.weaken HW3.out.2.2.size;rwa [Nat.add_zero] at this,HW3.out.1.below hb5,Kp2.of_below (HW3.out.2.2.trans (hb5.mono HW3.out.2.2.size))⟩
    clear hw5 hb5 HW3 c0' c1' c2'
    go_wp2
    go_ret2
    exact nuq_none HRr.out hnu.out rfl HF.out
  have h9':¬ (9<(d:Int)):=by omega
  by_cases hok':¬ ∃ n,Lib.atoiAll (pcN r) = .ok n
  ·have hnu:Hid (nuL r=none):=by
    unfold Hid nuL
    rw [if_neg (by rw [← Hd.out];exact h9)]
    rcases hc:Lib.atoiAll (pcN r) with n | _ | _
    ·exact absurd ⟨n,hc⟩ hok'
    ·rfl
    ·rfl
   go_wp2_with fail
   rw [← HPC.out]
   refine (HAn.out _ HW2.out.2.1.here (fun n hn=>hok' ⟨n,hn⟩)).mono ?_
   rintro e w4 ⟨n4,q4,rfl,hn4,hb4⟩
   have HW3:Hid (Rd w4 b s p∧EnR B w4∧Below w.heap.size w w4):=⟨HW2.out.1.below hb4,HW2.out.2.1.on (hb4.mono (Nat.le_trans (by have:=HH.out;omega) HW2.out.2.2.size)),HW2.out.2.2.trans (hb4.mono HW2.out.2.2.size)⟩
   clear hb4 HW2
   obtain ⟨c0',c1',c2'⟩:=rd_cells HW3.out.1
   go_wp2_with fail
   refine (refuse_any b s p 0 ⟨#[97,32,110,117,109,98,101,114]⟩ _ HW3.out.1 (by omega) (by decide)).mono ?_
   rintro e w5 ⟨v5,rfl,hw5,hb5⟩
   have HF:Hid (IsW w.heap.size w5 v5 p∧Rd w5 b s p∧Kp2 b b w w5):=⟨by have:=hw5.weaken HW3.out.2.2.size;rwa [Nat.add_zero] at this,HW3.out.1.below hb5,Kp2.of_below (HW3.out.2.2.trans (hb5.mono HW3.out.2.2.size))⟩
   clear hw5 hb5 HW3 c0' c1' c2'
   go_wp2
   go_ret2
   exact nuq_none HRr.out hnu.out rfl HF.out
  have hok:=Classical.not_not.1 hok'
  obtain ⟨n,hok⟩:=hok
  have hnb:I64 n:=Lib.atoiAll_bounds hok
  have hn0:=hnb.1
  have hn1:=hnb.2
  go_wp2_with fail
  rw [← HPC.out]
  refine (HAo.out n _ hok).mono ?_
  rintro e w4 ⟨ev,rfl,rfl,hb4⟩
  have HW3:Hid (Rd w4 b s p∧EnR B w4∧Below w.heap.size w w4):=⟨HW2.out.1.below hb4,HW2.out.2.1.on (hb4.mono (Nat.le_trans (by have:=HH.out;omega) HW2.out.2.2.size)),HW2.out.2.2.trans (hb4.mono HW2.out.2.2.size)⟩
  clear hb4 HW2
  go_wp2_with fail
  refine (itoaC_any n _ hnb HW3.out.2.1.here).mono ?_
  rintro e w5 ⟨rfl,hb5⟩
  have HW4:Hid (Rd w5 b s p∧EnR B w5∧Below w.heap.size w w5):=⟨HW3.out.1.below hb5,HW3.out.2.1.on (hb5.mono (Nat.le_trans (by have:=HH.out;omega) HW3.out.2.2.size)),HW3.out.2.2.trans (hb5.mono HW3.out.2.2.size)⟩
  clear hb5 HW3
  have HPen:=HPe.out n
  by_cases hit:Lib.itoa n=pcN r
  ·have hnu:Hid (nuL r=some n):=by unfold Hid nuL;rw [if_neg (by rw [← Hd.out];exact h9),hok];simp [hit]
   obtain rfl:=HPen.2 hit
   obtain ⟨c0',c1',c2'⟩:=rd_cells HW4.out.1
   have HF:Hid (∀ W,W=w5.setCell ⟨b,1,none⟩ (.int .i64 ((p:Int)+(pcN r).length))→Rd W b s (p+(pcN r).length)∧Kp2 b b w W):=fun W hW=>by
    subst hW
    refine ⟨?_,(Kp2.of_below HW4.out.2.2).trans (Kp2.put _ _ _ _ _)⟩
    have:=HW4.out.1.put (q:=p+(pcN r).length)
    rw [show (p:Int)+(pcN r).length=((p+(pcN r).length:Nat):Int) by omega]
    exact this
   have hpz:((pcN r).length:Int)≤100001:=by have:=Hlen.out;omega
   clear HPen HW4
   go_wp2
   go_ret2
   exact nuq_some HRr.out hnu.out rfl (HF.out _ rfl).1 (HF.out _ rfl).2
  ·have hnu:Hid (nuL r=none):=by unfold Hid nuL;rw [if_neg (by rw [← Hd.out];exact h9),hok];simp [hit]
   have ePC:(Lib.itoa n==PC.toList)=false:=by
    rw [beq_eq_false_iff_ne,ztx_list]
    intro h
    exact hit (HPen.1 (by apply ByteArray.ext;apply Array.ext';simpa using h))
   have ePC2:¬ Lib.itoa n=PC.toList:=beq_eq_false_iff_ne.1 ePC
   have HW3:=HW4
   clear HW4 HPen
   obtain ⟨c0',c1',c2'⟩:=rd_cells HW3.out.1
   go_wp2_with fail
   refine (refuse_any b s p 0 ⟨#[97,32,110,117,109,98,101,114]⟩ _ HW3.out.1 (by omega) (by decide)).mono ?_
   rintro e w5 ⟨v5,rfl,hw5,hb5⟩
   have HF:Hid (IsW w.heap.size w5 v5 p∧Rd w5 b s p∧Kp2 b b w w5):=⟨by have:=hw5.weaken HW3.out.2.2.size;rwa [Nat.add_zero] at this,HW3.out.1.below hb5,Kp2.of_below (HW3.out.2.2.trans (hb5.mono HW3.out.2.2.size))⟩
   clear hw5 hb5 HW3 c0' c1' c2'
   go_wp2
   go_ret2
   exact nuq_none HRr.out hnu.out rfl HF.out
end Go.Proofs.YtapachlhdgehjaaGreatDoor

/- Contract of package colour: the colour of sixteens. -/
namespace Go.Proofs.YtapachlhdgehjaaGreatDoor
open Go.RowKit
def AtP (w:World) (b:Nat) (f:Nat→Int):Prop:=∀ j,j<4→w.cell? ⟨b,j,none⟩=some (.int .u8 (f j))
theorem AtP.below {W w1:World} {b:Nat} {f:Nat→Int} (h:AtP W b f) (hb:Below W.heap.size W w1):AtP w1 b f :=
 fun j hj=>(keepAt hb (h 0 (by decide)) j).trans (h j hj)
theorem rd_bd {t:ByteArray} (hs:∀ (j:Nat) (h:j<t.size),six (t[j]).toNat=true) (each:Nat):∀ i j,i≤t.size→0≤rd t each i j∧rd t each i j≤255
 | 0,j,_=>by unfold rd;split <;> omega
 | i+1,j,h=>by
  have hi:=rd_bd hs each i j (by omega)
  unfold rd
  split
  ·have h2:=hs i (by omega)
   have h3:=dig_lt (t[i]).toNat
   rw [dg_at (by omega)]
   unfold six at h2
   simp at h2
   omega
  ·exact hi
theorem or16:∀ (y d:Fin 16),bits .or .u8 ((y.val:Int) * 16) (d.val:Int)=(y.val:Int) * 16+(d.val:Int):=by decide +kernel
theorem or_add (x d:Int) (h0:0≤d) (h1:d≤15):bits .or .u8 (x * 16 % 256) d=x * 16 % 256+d:=by
 have h:=or16 ⟨(x % 16).toNat,by omega⟩ ⟨d.toNat,by omega⟩
 simp only at h
 rw [show (((x % 16).toNat:Nat):Int)=x % 16 by omega,show ((d.toNat:Nat):Int)=d by omega,show x % 16 * 16=x * 16 % 256 by omega] at h
 exact h
theorem AtP.put {w:World} {b q:Nat} {f:Nat→Int} (h:AtP w b f) (v:Int) (hq:q<4):AtP (w.setCell ⟨b,q,none⟩ (.int .u8 v)) b (fun j=>if j=q then v else f j):=by
 intro j hj
 by_cases e:j=q
 ·subst e
  have:=h j hj
  simp [go_sem,this]
 ·rw [World.cell?_setCell_other _ _ _ _ (fun h=>e (by cases h;rfl))]
  simp [e,h j hj]
theorem AtP.congr {w:World} {b:Nat} {f g:Nat→Int} (h:AtP w b f) (e:∀ j,j<4→f j=g j):AtP w b g:=fun j hj=>by rw [← e j hj];exact h j hj
set_option maxHeartbeats 1000000 in
theorem read_two (t:ByteArray) (w:World) (ht:t.size=6∨t.size=8) (hs:∀ (j:Nat) (h:j<t.size),six (t[j]).toNat=true) :
  Calls Tryz.prog 179 #[.string t,.int .i64 2] w fun e w'=>e = .returned (.agg #[.int .u8 (rd t 2 t.size 0),.int .u8 (rd t 2 t.size 1),.int .u8 (rd t 2 t.size 2),.int .u8 (rd t 2 t.size 3)])∧Below w.heap.size w w':=by
 have HS:Hid (∀ (j:Nat) (h:j<t.size),six (t[j]).toNat=true):=hs
 have hb:=rd_bd hs 2
 have HB:Hid (∀ i j,i≤t.size→0≤rd t 2 i j∧rd t 2 i j≤255):=hb
 clear hs hb
 go_enter Tryz.func179,Tryz.ntmps179
 go_wp2
 go_loopw [12] (fun i wr=>∃ k:Nat,k≤t.size∧i = .int .i64 k∧AtP wr (w.heap.size+1) (rd t 2 k)∧Fr wr (w.heap.size+1)∧AtC wr w.heap.size ⟨0,0,0,0⟩∧Fr wr w.heap.size∧Below w.heap.size w wr) (fun i _=>t.size - (intOf i).toNat)
 case atStart =>
  refine ⟨0,Nat.zero_le _,rfl,?_,fr1 _ _ _ _,(AtC.new _ _ _ _ _ _).alloc _,(Fr.new _ _ _).alloc _,((Below.refl _ w).alloc (Nat.le_refl _) _).alloc (by simp) _⟩
  intro j hj
  have hc:j=0∨j=1∨j=2∨j=3:=by omega
  rcases hc with rfl | rfl | rfl | rfl <;> simp [rd,go_sem]
 case round =>
  obtain ⟨k,hk,rfl,hP,hF,hC,hG,hL⟩:=hrel
  by_cases hlt:k<t.size
  ·obtain ⟨q,hq⟩:∃ q,q=k / 2:=⟨_,rfl⟩
   have hq':((k:Int) / 2)=(q:Int):=by omega
   have hq4:q<4:=by omega
   have hc:=hP q hq4
   have hlt2:w.heap.size+1<wr.heap.size:=hF.1
   have hfr:=hF.2 q
   have hxb:=HB.out k q hk
   generalize hx:rd t 2 k q=x at *
   have HQ:Hid (q=k / 2∧rd t 2 k q=x):=⟨hq,hx⟩
   have HH:Hid (AtP wr (w.heap.size+1) (rd t 2 k)∧Fr wr (w.heap.size+1)∧AtC wr w.heap.size ⟨0,0,0,0⟩∧Fr wr w.heap.size∧Below w.heap.size w wr):=⟨hP,hF,hC,hG,hL⟩
   clear hP hF hC hG hL hq hx
   obtain ⟨hx1,hx2⟩:=hxb
   have hsx:=HS.out k hlt
   have hd:=dig_lt (t[k]).toNat
   have hd0:0≤dig (t[k]).toNat:=by unfold six at hsx;simpa using hsx
   have hor:=or_add x (dig (t[k]).toNat) hd0 hd.1
   have HV:Hid (∀ w,Calls Tryz.prog 193 #[.int .u8 ((t[k]).toNat:Nat)] w fun e w'=>e = .returned (.int .u8 (dig (t[k]).toNat))∧w'=w):=fun w=>value_any _ w hsx
   have HD:Hid (dg t k=dig (t[k]).toNat):=dg_at hlt
   clear hsx
   go_wp2_with fail
   generalize hW:wr.setCell { block:=w.heap.size+1,off:=q } (Value.int IntKind.u8 (x * 16 % 256))=W
   have HW:Hid (W.cell? ⟨w.heap.size+1,q,none⟩=some (.int .u8 (x * 16 % 256))∧Fr W (w.heap.size+1)∧AtP W (w.heap.size+1) (fun j=>if j=q then x * 16 % 256 else rd t 2 k j)∧AtC W w.heap.size ⟨0,0,0,0⟩∧Fr W w.heap.size∧Below w.heap.size w W):=by
    obtain ⟨hP,hF,hC,hG,hL⟩:=HH.out
    have hP':=hP.put (x * 16 % 256) hq4
    rw [hW] at hP'
    refine ⟨by have:=hP' q hq4;simpa using this,hW ▸ hF.set _ _,hP',hW ▸ hC.set _ (by show w.heap.size+1≠_;omega),hW ▸ hG.set _ _,hW ▸ hL.setCell (by show _≤w.heap.size+1;omega) _⟩
   clear HH hc hfr hW
   refine wp_region_lit 9 0 1 (fun _=>.cells #[] 0) [] (by kernel_rfl) (by kernel_rfl) rfl (fun k hk=>absurd hk (by omega)) rfl (fun i h1 h2=>absurd h2 (by omega)) ?_
   apply Exists.intro
   refine ⟨fun bs ne=>?_,?_⟩
   ·have d0:=fun tt:Gb W bs=>(keepAt tt.below HW.out.1 q).trans HW.out.1
    simp only [List.take_succ_cons,List.take_zero]
    repeat (go_big_quiet_step (first
     | (go_at_call 193;exact gb_same (HV.out _))))
    exact wpQuiet_nil rfl
   ·intro bl wx hbl _ _
    obtain ⟨h1,hF,hP,hC,hG,hL⟩:=HW.out
    have c0:=(keepAt hbl h1 q).trans h1
    have hF':=hF.below hbl
    have hff:=hF'.2 q
    have hsz:=hF'.1
    simp only [layL]
    refine wpAny_one 9 (by kernel_rfl) rfl ?_
    intro K hK
    go_simp
    refine hK _ _ ?_
    clear hK K
    refine wpAny_done (by kernel_rfl) ?_ _
    go_wp2
    go_roundw
    case rel =>
     obtain ⟨hq,hx⟩:=HQ.out
     refine ⟨k+1,by omega,by go_num,((hP.below hbl).put _ hq4).congr fun j hj=>?_,hF'.set _ _,(hC.below hbl).set _ (by show w.heap.size+1≠_;omega),(hG.below hbl).set _ _,(hL.trans (hbl.mono hL.size)).setCell (by show _≤w.heap.size+1;omega) _⟩
     rw [rd,← hq]
     by_cases e:j=q
     ·subst e
      simp [hx,HD.out]
     ·simp [e]
    case measure=>simp [intOf];omega
  ·obtain rfl:k=t.size:=by omega
   have c0:=hP 0 (by decide)
   have c1:=hP 1 (by decide)
   have c2:=hP 2 (by decide)
   have c3:=hP 3 (by decide)
   have lt1:w.heap.size+1<wr.heap.size:=hF.1
   have lt0:=hG.1
   have f0:=hG.2
   obtain ⟨z0,z1,z2,z3⟩:=hC
   have HL:Hid (Below w.heap.size w wr):=hL
   clear hP hF hG hL
   obtain ⟨y0,hy0⟩:∃ y,y=rd t 2 t.size 0:=⟨_,rfl⟩
   obtain ⟨y1,hy1⟩:∃ y,y=rd t 2 t.size 1:=⟨_,rfl⟩
   obtain ⟨y2,hy2⟩:∃ y,y=rd t 2 t.size 2:=⟨_,rfl⟩
   obtain ⟨y3,hy3⟩:∃ y,y=rd t 2 t.size 3:=⟨_,rfl⟩
   rw [← hy0] at c0
   rw [← hy1] at c1
   rw [← hy2] at c2
   rw [← hy3] at c3
   have HY:Hid (y0=rd t 2 t.size 0∧y1=rd t 2 t.size 1∧y2=rd t 2 t.size 2∧y3=rd t 2 t.size 3):=⟨hy0,hy1,hy2,hy3⟩
   clear hy0 hy1 hy2 hy3
   go_wp2
   have L':=set4_below (b:=w.heap.size) HL.out (Nat.le_refl _) (.int .u8 y0) (.int .u8 y1) (.int .u8 y2) (.int .u8 y3)
   obtain ⟨r0,r1,r2,r3⟩:=(AtC.put (k:=w.heap.size) (c:=⟨0,0,0,0⟩) ⟨z0,z1,z2,z3⟩ y0 y1 y2 y3).alloc (Obj.cells #[.int .u8 y0,.int .u8 y1,.int .u8 y2,.int .u8 y3] 38)
   exact bodyPost_ret (v:=.agg #[.int .u8 y0,.int .u8 y1,.int .u8 y2,.int .u8 y3]) (by simp [results,Tryz.results179,go_sem,r0,r1,r2,r3]) rfl ⟨by rw [← HY.out.1,← HY.out.2.1,← HY.out.2.2.1,← HY.out.2.2.2],L'.alloc L'.size _⟩
theorem or17F:∀ y:Fin 16,bits .or .u8 (y.val:Int) ((y.val:Int) * 16)=17 * (y.val:Int):=by decide +kernel
theorem or17 (y:Int) (h0:0≤y) (h1:y≤15):bits .or .u8 y (y * 16)=17 * y:=by
 have h:=or17F ⟨y.toNat,by omega⟩
 simp only at h
 rwa [show ((y.toNat:Nat):Int)=y by omega] at h
set_option maxHeartbeats 1000000 in
theorem read_one (t:ByteArray) (w:World) (ht:t.size=3) (hs:∀ (j:Nat) (h:j<t.size),six (t[j]).toNat=true) :
  Calls Tryz.prog 179 #[.string t,.int .i64 1] w fun e w'=>e = .returned (.agg #[.int .u8 (17 * dg t 0),.int .u8 (17 * dg t 1),.int .u8 (17 * dg t 2),.int .u8 255])∧Below w.heap.size w w':=by
 have HS:Hid (∀ (j:Nat) (h:j<t.size),six (t[j]).toNat=true):=hs
 have hb:=rd_bd hs 1
 have HB:Hid (∀ i j,i≤t.size→0≤rd t 1 i j∧rd t 1 i j≤255):=hb
 clear hs hb
 go_enter Tryz.func179,Tryz.ntmps179
 go_wp2
 go_loopw [12] (fun i wr=>∃ k:Nat,k≤t.size∧i = .int .i64 k∧AtP wr (w.heap.size+1) (rd t 1 k)∧Fr wr (w.heap.size+1)∧AtC wr w.heap.size ⟨0,0,0,0⟩∧Fr wr w.heap.size∧Below w.heap.size w wr) (fun i _=>t.size - (intOf i).toNat)
 case atStart =>
  refine ⟨0,Nat.zero_le _,rfl,?_,fr1 _ _ _ _,(AtC.new _ _ _ _ _ _).alloc _,(Fr.new _ _ _).alloc _,((Below.refl _ w).alloc (Nat.le_refl _) _).alloc (by simp) _⟩
  intro j hj
  have hc:j=0∨j=1∨j=2∨j=3:=by omega
  rcases hc with rfl | rfl | rfl | rfl <;> simp [rd,go_sem]
 case round =>
  obtain ⟨k,hk,rfl,hP,hF,hC,hG,hL⟩:=hrel
  by_cases hlt:k<t.size
  ·have hq:k=k / 1:=by omega
   have hq4:k<4:=by omega
   have hc:=hP k hq4
   have hlt2:w.heap.size+1<wr.heap.size:=hF.1
   have hfr:=hF.2 k
   have hxb:=HB.out k k hk
   generalize hx:rd t 1 k k=x at *
   have HQ:Hid (k=k / 1∧rd t 1 k k=x):=⟨hq,hx⟩
   have HH:Hid (AtP wr (w.heap.size+1) (rd t 1 k)∧Fr wr (w.heap.size+1)∧AtC wr w.heap.size ⟨0,0,0,0⟩∧Fr wr w.heap.size∧Below w.heap.size w wr):=⟨hP,hF,hC,hG,hL⟩
   clear hP hF hC hG hL hq hx
   obtain ⟨hx1,hx2⟩:=hxb
   have hsx:=HS.out k hlt
   have hd:=dig_lt (t[k]).toNat
   have hd0:0≤dig (t[k]).toNat:=by unfold six at hsx;simpa using hsx
   have hor:=or_add x (dig (t[k]).toNat) hd0 hd.1
   have HV:Hid (∀ w,Calls Tryz.prog 193 #[.int .u8 ((t[k]).toNat:Nat)] w fun e w'=>e = .returned (.int .u8 (dig (t[k]).toNat))∧w'=w):=fun w=>value_any _ w hsx
   have HD:Hid (dg t k=dig (t[k]).toNat):=dg_at hlt
   clear hsx
   go_wp2_with fail
   generalize hW:wr.setCell { block:=w.heap.size+1,off:=k } (Value.int IntKind.u8 (x * 16 % 256))=W
   have HW:Hid (W.cell? ⟨w.heap.size+1,k,none⟩=some (.int .u8 (x * 16 % 256))∧Fr W (w.heap.size+1)∧AtP W (w.heap.size+1) (fun j=>if j=k then x * 16 % 256 else rd t 1 k j)∧AtC W w.heap.size ⟨0,0,0,0⟩∧Fr W w.heap.size∧Below w.heap.size w W):=by
    obtain ⟨hP,hF,hC,hG,hL⟩:=HH.out
    have hP':=hP.put (x * 16 % 256) hq4
    rw [hW] at hP'
    refine ⟨by have:=hP' k hq4;simpa using this,hW ▸ hF.set _ _,hP',hW ▸ hC.set _ (by show w.heap.size+1≠_;omega),hW ▸ hG.set _ _,hW ▸ hL.setCell (by show _≤w.heap.size+1;omega) _⟩
   clear HH hc hfr hW
   refine wp_region_lit 9 0 1 (fun _=>.cells #[] 0) [] (by kernel_rfl) (by kernel_rfl) rfl (fun k hk=>absurd hk (by omega)) rfl (fun i h1 h2=>absurd h2 (by omega)) ?_
   apply Exists.intro
   refine ⟨fun bs ne=>?_,?_⟩
   ·have d0:=fun tt:Gb W bs=>(keepAt tt.below HW.out.1 k).trans HW.out.1
    simp only [List.take_succ_cons,List.take_zero]
    repeat (go_big_quiet_step (first
     | (go_at_call 193;exact gb_same (HV.out _))))
    exact wpQuiet_nil rfl
   ·intro bl wx hbl _ _
    obtain ⟨h1,hF,hP,hC,hG,hL⟩:=HW.out
    have c0:=(keepAt hbl h1 k).trans h1
    have hF':=hF.below hbl
    have hff:=hF'.2 k
    have hsz:=hF'.1
    simp only [layL]
    refine wpAny_one 9 (by kernel_rfl) rfl ?_
    intro K hK
    go_simp
    refine hK _ _ ?_
    clear hK K
    refine wpAny_done (by kernel_rfl) ?_ _
    go_wp2
    go_roundw
    case rel =>
     obtain ⟨hq,hx⟩:=HQ.out
     refine ⟨k+1,by omega,by go_num,((hP.below hbl).put _ hq4).congr fun j hj=>?_,hF'.set _ _,(hC.below hbl).set _ (by show w.heap.size+1≠_;omega),(hG.below hbl).set _ _,(hL.trans (hbl.mono hL.size)).setCell (by show _≤w.heap.size+1;omega) _⟩
     rw [rd,← hq]
     by_cases e:j=k
     ·subst e
      simp [hx,HD.out]
     ·simp [e]
    case measure=>simp [intOf];omega
  ·obtain rfl:k=t.size:=by omega
   have d0:=HS.out 0 (by omega)
   have d1:=HS.out 1 (by omega)
   have d2:=HS.out 2 (by omega)
   have e0:=dig_lt (t[0]'(by omega)).toNat
   have e1:=dig_lt (t[1]'(by omega)).toNat
   have e2:=dig_lt (t[2]'(by omega)).toNat
   rw [← dg_at (by omega)] at e0 e1 e2
   unfold six at d0 d1 d2
   rw [← dg_at (by omega)] at d0 d1 d2
   simp only [decide_eq_true_eq] at d0 d1 d2
   have r0:rd t 1 t.size 0=dg t 0:=by rw [ht];simp [rd]
   have r1:rd t 1 t.size 1=dg t 1:=by rw [ht];simp [rd]
   have r2:rd t 1 t.size 2=dg t 2:=by rw [ht];simp [rd]
   have r3:rd t 1 t.size 3=255:=by rw [ht];simp [rd]
   have c0:=hP 0 (by decide)
   have c1:=hP 1 (by decide)
   have c2:=hP 2 (by decide)
   have c3:=hP 3 (by decide)
   rw [r0] at c0
   rw [r1] at c1
   rw [r2] at c2
   rw [r3] at c3
   have lt1:w.heap.size+1<wr.heap.size:=hF.1
   have lt0:=hG.1
   have f0:=hG.2
   obtain ⟨z0,z1,z2,z3⟩:=hC
   have HL:Hid (Below w.heap.size w wr):=hL
   obtain ⟨y0,hy0⟩:∃ y,y=dg t 0:=⟨_,rfl⟩
   obtain ⟨y1,hy1⟩:∃ y,y=dg t 1:=⟨_,rfl⟩
   obtain ⟨y2,hy2⟩:∃ y,y=dg t 2:=⟨_,rfl⟩
   rw [← hy0] at c0 d0 e0
   rw [← hy1] at c1 d1 e1
   rw [← hy2] at c2 d2 e2
   have o0:=or17 y0 d0 e0.1
   have o1:=or17 y1 d1 e1.1
   have o2:=or17 y2 d2 e2.1
   have HY:Hid (y0=dg t 0∧y1=dg t 1∧y2=dg t 2):=⟨hy0,hy1,hy2⟩
   clear hy0 hy1 hy2 hP hF hG hL r0 r1 r2 r3 HS HB
   go_wp2
   have L':=set4_below (b:=w.heap.size) HL.out (Nat.le_refl _) (.int .u8 (17 * y0)) (.int .u8 (17 * y1)) (.int .u8 (17 * y2)) (.int .u8 255)
   obtain ⟨r0,r1,r2,r3⟩:=(AtC.put (k:=w.heap.size) (c:=⟨0,0,0,0⟩) ⟨z0,z1,z2,z3⟩ (17 * y0) (17 * y1) (17 * y2) 255).alloc (Obj.cells #[.int .u8 (17 * y0),.int .u8 (17 * y1),.int .u8 (17 * y2),.int .u8 255] 38)
   exact bodyPost_ret (v:=.agg #[.int .u8 (17 * y0),.int .u8 (17 * y1),.int .u8 (17 * y2),.int .u8 255]) (by simp [results,Tryz.results179,go_sem,r0,r1,r2,r3]) rfl ⟨by rw [← HY.out.1,← HY.out.2.1,← HY.out.2.2],L'.alloc L'.size _⟩
end Go.Proofs.YtapachlhdgehjaaGreatDoor
