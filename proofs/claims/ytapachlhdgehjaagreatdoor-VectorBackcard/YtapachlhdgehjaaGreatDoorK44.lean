/-
  Texts of this claim, one behind the other: what each is about stands ahead of it.
-/
import Derived.Test.YtapachlhdgehjaaGreatDoorK43
import Derived.Test.YtapachlhdgehjaaGreatDoorK29
import Derived.Test.YtapachlhdgehjaaGreatDoorK42
/- What is written as shapes is read as itself, in plain words: the whole text. -/
namespace Go.Proofs.YtapachlhdgehjaaGreatDoor
open Go.RowKit Go.Lib
theorem rdb_of {s:St} (h:oneE s=0) (hw:WfS s):Rdb s:=by
 obtain ⟨hm,hk,hf⟩:=oneE_zero h
 have hr:=may_iff.1 (show mayB s.r.x s.r.y s.r.w s.r.h=true from hm)
 have hn:0≤s.n∧s.n≤1048576:=by
  unfold oneE at h
  split at h
  ·cases h
  ·next h1 =>
   simp only [wroK,Bool.or_eq_true,decide_eq_true_eq] at h1
   constructor
   ·rcases Int.lt_or_le s.n 0 with h2 | h2
    ·exact absurd (.inl (.inr (.inl (.inl h2)))) h1
    ·exact h2
   ·rcases Int.lt_or_le 1048576 s.n with h2 | h2
    ·exact absurd (.inl (.inr (.inl (.inr h2)))) h1
    ·exact h2
 exact ⟨by omega,by omega,by omega,by omega,by omega,hw.2.2.1,hw.2.2.2.1⟩
theorem skF_str {s:ByteArray} {p:Nat} {T:St} {rest:List UInt8} (h0:oneE T=0) (hw:WfS T) (h:rsL s p=strF T++rest):∀ (f k:Nat),1≤k→(k:Int)≤T.k→T.k<k+f→k+f≤6 →
  skF s p f k = .inr (T,p+(strF T).length)
 | 0,k,_,_,h3,_=>by omega
 | f+1,k,h1,h2,h3,h4=>by
  obtain ⟨x,hx⟩:=str_fix T
  obtain ⟨kk,hkk⟩:∃ kk:Nat,T.k=kk:=⟨T.k.toNat,by omega⟩
  by_cases he:(k:Int)=T.k
  ·have hb:bgB s p ((forF k).take (rnO fxB (forF k)))=true:=by
    have e:rsL s p=fixF T.k++(x++rest):=by rw [h,hx,List.append_assoc]
    have:=(bgB_yes e).1
    rw [← he] at this
    exact this
   rw [skF_yes hb]
   have hl:=(lnL_lin (rdb_of h0 hw) ((forF k).length+1) (forF k) p zSo rest (Nat.lt_succ_self _) (form_sep ⟨k,by omega⟩) (by rw [he];exact h)).1
   rw [hl,he]
   simp only
   rw [one_back h0]
   rfl
  ·have hb:bgB s p ((forF k).take (rnO fxB (forF k)))=false:=by
    unfold bgB Lib.hasPrefix
    rw [h,hx,List.append_assoc]
    have:=fix_pr ⟨k,by omega⟩ ⟨kk,by omega⟩ h1 (by show k<kk;omega)
    rw [hkk]
    exact pr_no this
   rw [skF_no hb]
   exact skF_str h0 hw h f (k+1) (by omega) (by omega) (by omega) (by omega)
theorem skL_str {s:ByteArray} {p:Nat} {T:St} {rest:List UInt8} (h0:oneE T=0) (hw:WfS T) (h:rsL s p=strF T++rest):skL s p = .inr (T,p+(strF T).length):=by
 obtain ⟨_,hk,_⟩:=oneE_zero h0
 exact skF_str h0 hw h 5 1 (by omega) (by omega) (by omega) (by omega)
theorem vsF_shp {s:ByteArray}:∀ (l:List St) (f p:Nat) (acc:List St),(∀ T∈l,oneE T=0∧WfS T)→l.length<f→rsL s p=shpF l++lstF→vsF s f p acc = .inr (acc++l)
 | [],f+1,p,acc,_,_,h=>by
  obtain ⟨b1,b2⟩:=bgB_yes (y:=[]) (h.trans (by show lstF=lstF++[];rw [List.append_nil]))
  rw [vsF_last b1,List.append_nil,if_neg]
  unfold rsL at b2
  rw [List.drop_eq_nil_iff,dl_len] at b2
  have:lstF.length=10:=rfl
  omega
 | T :: l,f+1,p,acc,ha,hf,h=>by
  have h2:rsL s p=strF T++(shpF l++lstF):=by
   rw [h]
   unfold shpF
   rw [List.flatMap_cons,List.append_assoc]
  obtain ⟨h0,hw⟩:=ha T (List.mem_cons_self ..)
  obtain ⟨_,hk,_⟩:=oneE_zero h0
  obtain ⟨x,hx⟩:=str_fix T
  have hb:bgB s p lstF=false:=by
   unfold bgB Lib.hasPrefix
   rw [h2,hx,List.append_assoc]
   obtain ⟨kk,hkk⟩:∃ kk:Nat,T.k=kk:=⟨T.k.toNat,by omega⟩
   rw [hkk]
   exact pr_no (fix_last ⟨kk,by omega⟩ (by show 1≤kk;omega))
  rw [vsF_go hb (skL_str h0 hw h2),vsF_shp l f _ _ (fun T' hT=>ha T' (List.mem_cons_of_mem _ hT)) (by rw [List.length_cons] at hf;omega) (bgB_yes h2).2,List.append_assoc]
  rfl
theorem clp_all:∀ (n:Nat) (l:List St),clpE n l=0→∀ T∈l,oneE T=0
 | _,[],_,T,h=>by cases h
 | n,s :: l,hc,T,h=>by
  obtain ⟨a1,_,a3⟩:=clpE_cons hc
  rcases List.mem_cons.1 h with rfl | h
  ·exact a1
  ·exact clp_all _ l a3 T h
theorem strF_pos (T:St):0<(strF T).length:=by
 obtain ⟨x,hx⟩:=str_fix T
 rw [hx,List.length_append]
 have h3:0<rnO fxB (forF T.k):=by
  unfold forF
  repeat' split
  all_goals decide
 have h2:(fixF T.k).length=rnO fxB (forF T.k):=by
  unfold fixF
  rw [List.length_take]
  have:=rnO_le fxB (forF T.k)
  omega
 omega
theorem shp_len:∀ l:List St,l.length≤(shpF l).length
 | []=>Nat.le_refl _
 | T :: l=>by
  have h1:=shp_len l
  have h2:=strF_pos T
  have e:shpF (T :: l)=strF T++shpF l:=List.flatMap_cons ..
  rw [e,List.length_append,List.length_cons]
  omega
theorem co0_ok:(⟨0,0,0,0⟩:Co).ok:=⟨⟨by decide,by decide⟩,⟨by decide,by decide⟩,⟨by decide,by decide⟩,⟨by decide,by decide⟩⟩
theorem vsR_back {l:List St} {zw zh:Int} (hk:chkS l=0) (hw:Wfs l) (hz:sizB zw zh=true):vsR ⟨(texF l zw zh).toArray⟩ = .inr (l,zw,zh):=by
 obtain ⟨s,hs⟩:∃ s:ByteArray,s=⟨(texF l zw zh).toArray⟩:=⟨_,rfl⟩
 have h0:rsL s 0=hdF zw zh++(shpF l++lstF):=by
  rw [hs]
  unfold rsL texF
  simp [List.append_assoc]
 have hzz:(0≤zw∧zw≤16384)∧(0≤zh∧zh≤16384):=by
  unfold sizB at hz
  simpa [Bool.and_eq_true,decide_eq_true_eq] using hz
 have hT:Rdb ⟨0,⟨0,0,zw,zh⟩,⟨0,0,0,0⟩,⟨0,0,0,0⟩,ByteArray.empty,0⟩:=by
  refine ⟨⟨by show (-1000000000:Int)<0;decide,by show (0:Int)<1000000000;decide⟩,⟨by show (-1000000000:Int)<0;decide,by show (0:Int)<1000000000;decide⟩,⟨by show (-1000000000:Int)<zw;omega,by show zw<1000000000;omega⟩,⟨by show (-1000000000:Int)<zh;omega,by show zh<1000000000;omega⟩,⟨by show (-1000000000:Int)<0;decide,by show (0:Int)<1000000000;decide⟩,co0_ok,co0_ok⟩
 obtain ⟨l1,l2⟩:=lnL_lin hT 22 hedF 0 zSo (shpF l++lstF) (by decide) head_sep h0
 have hall:∀ T∈l,oneE T=0∧WfS T:=fun T hT=>⟨clp_all 0 l (chkS_zero hk).2 T hT,hw T hT⟩
 have hln:l.length<s.size+1:=by
  have h1:=shp_len l
  have h2:=congrArg List.length h0
  rw [rsL_len,List.length_append,List.length_append] at h2
  omega
 have hv:=vsF_shp l (s.size+1) _ [] hall hln l2
 rw [← hs]
 unfold vsR
 rw [l1]
 simp only
 rw [hv]
 rfl
end Go.Proofs.YtapachlhdgehjaaGreatDoor

/- The statement VectorBack, walked, over what is asked of drawFrame. -/
namespace Go.Proofs.YtapachlhdgehjaaGreatDoor
open Go.RowKit
structure VbF (w:World) (vl:Value) (l:List St) (zw zh:Int) (c:Co) (W:World):Prop where
 z:Bk W w.heap.size #[.int .i64 zw,.int .i64 zh] 23
 c:Bk W (w.heap.size+1) #[.int .u8 c.r,.int .u8 c.g,.int .u8 c.b,.int .u8 c.a] 38
 b:Below w.heap.size w W
 l:LsS W vl l
theorem VbF.below {w:World} {vl:Value} {l:List St} {zw zh:Int} {c:Co} {W W':World} (h:VbF w vl l zw zh c W) (hb:Below W.heap.size W W'):VbF w vl l zw zh c W' :=
 ⟨h.z.below hb,h.c.below hb,h.b.trans (hb.mono h.b.size),h.l.below hb⟩
theorem VbF.alk {w:World} {vl:Value} {l:List St} {zw zh:Int} {c:Co} {W:World} (h:VbF w vl l zw zh c W) (o:Obj):VbF w vl l zw zh c (W.alloc o):=h.below ((Below.refl _ W).alloc (Nat.le_refl _) o)
theorem tex_zero {l:List St} {zw zh:Int} (h:texE l zw zh=0):chkS l=0∧sizB zw zh=true∧(texF l zw zh).length≤65536∧texT l zw zh=texF l zw zh:=by
 have h0:=h
 unfold texE at h
 split at h
 ·next h1=>exact absurd h h1
 ·next h1 =>
  split at h
  ·cases h
  ·next h2 =>
   split at h
   ·cases h
   ·next h3=>exact ⟨Decidable.not_not.1 h1,by simpa using h2,by omega,by unfold texT;rw [if_pos h0]⟩
theorem rd_text {l:List St} {zw zh:Int} (h:texE l zw zh=0) (hw:Wfs l):rdE ⟨(texT l zw zh).toArray⟩=0∧rdL ⟨(texT l zw zh).toArray⟩=l∧rdW ⟨(texT l zw zh).toArray⟩=zw∧rdH ⟨(texT l zw zh).toArray⟩=zh∧rdA ⟨(texT l zw zh).toArray⟩=0:=by
 obtain ⟨h1,h2,h3,h4⟩:=tex_zero h
 rw [h4]
 have hv:=vsR_back h1 hw h2
 have hs:¬ 65536<(⟨(texF l zw zh).toArray⟩:ByteArray).size:=by simp [ByteArray.size];omega
 have e:rdE ⟨(texF l zw zh).toArray⟩=0:=by unfold rdE;rw [if_neg hs,hv];simp [h1,h2]
 refine ⟨e,?_,?_,?_,?_⟩
 ·unfold rdL;rw [if_pos e,hv]
 ·unfold rdW;rw [if_pos e,hv]
 ·unfold rdH;rw [if_pos e,hv]
 ·unfold rdA;rw [if_neg hs,hv]
set_option maxRecDepth 20000 in
set_option maxHeartbeats 8000000 in
theorem vback_walk (FR:LFrm) (l:List St) (vl:Value) (zw zh:Int) (c:Co) (w:World) (hv:LsS w vl l) (hw:Wfs l) (i1:I64 zw) (i2:I64 zh) (hc:c.ok) (hE:EnR w.heap.size w∧EtI w) (HT:∀ W,Below w.heap.size w W→TbD W) :
  Calls Tryz.prog 4 #[vl,.agg #[.int .i64 zw,.int .i64 zh],(Value.agg #[.int .u8 c.r,.int .u8 c.g,.int .u8 c.b,.int .u8 c.a])] w fun e w'=>e = .returned (.bool true)∧Below w.heap.size w w':=by
 obtain ⟨oa,cap,rfl,hcap,_⟩:=id hv
 obtain ⟨n,hn⟩:∃ n,n=l.length:=⟨_,rfl⟩
 have HA:Hid (∀ W,Below w.heap.size w W→Calls Tryz.prog 11 #[] W fun e w'=>e = .returned (.bool true)∧Below W.heap.size W w'):=fun W h=>alive16_any W ((hE.1.on h).mono h.size) (hE.2.below h)
 obtain ⟨T,hT⟩:∃ T:ByteArray,T=⟨(texT l zw zh).toArray⟩:=⟨_,rfl⟩
 obtain ⟨E,hEe⟩:∃ E,E=texE l zw zh:=⟨_,rfl⟩
 have HX:Hid (∀ W,VbF w (.slice oa n cap) l zw zh c W→Calls Tryz.prog 12 #[.slice oa n cap,.agg #[.int .i64 zw,.int .i64 zh]] W fun e w'=>e = .returned (.tuple #[.string T,.int .i64 E])∧Below W.heap.size W w'):=fun W h=>by
  rw [hT,hEe]
  exact vtext_any l _ zw zh W h.l hw i1 i2 (hE.1.on h.b).here.pw
 have H0:Hid (∀ W,W=(w.alloc (.cells #[.int .i64 zw,.int .i64 zh] 23)).alloc (.cells #[.int .u8 c.r,.int .u8 c.g,.int .u8 c.b,.int .u8 c.a] 38)→VbF w (.slice oa n cap) l zw zh c W):=fun W hW=>by
  have k1:=Bk.new w #[.int .i64 zw,.int .i64 zh] 23
  have k2:=Bk.new (w.alloc (.cells #[.int .i64 zw,.int .i64 zh] 23)) #[.int .u8 c.r,.int .u8 c.g,.int .u8 c.b,.int .u8 c.a] 38
  simp only [World.size_alloc] at k2
  have bb:Below w.heap.size w W:=by rw [hW];exact ((Below.refl _ w).alloc (Nat.le_refl _) _).alloc (by simp) _
  rw [hW] at bb ⊢
  refine ⟨Bk.alk k1 _,k2,bb,?_⟩
  rw [hn]
  exact hv.below bb
 rw [← hn]
 by_cases h400:400<n
 ·have h4:(400:Int)<n:=by omega
  clear hv hw i1 i2 hc hE HT FR hT hEe HX hn h400
  go_enter Tryz.func4,Tryz.ntmps4
  go_wp2_with fail
  obtain ⟨W0,hW0⟩:∃ W0,W0=(w.alloc (.cells #[.int .i64 zw,.int .i64 zh] 23)).alloc (.cells #[.int .u8 c.r,.int .u8 c.g,.int .u8 c.b,.int .u8 c.a] 38):=⟨_,rfl⟩
  have H1:=show Hid _ from H0.out W0 hW0
  rw [← hW0]
  clear hW0 H0
  refine (HA.out _ H1.out.b).mono ?_
  rintro e w1 ⟨rfl,hb⟩
  have B1:Hid (Below w.heap.size w w1):=(H1.out.below hb).b
  clear hb H1 HA
  go_wp2
  go_ret
  exact ⟨rfl,B1.out⟩
 ·have h4:¬ (400:Int)<n:=by omega
  by_cases he:E=0
  ·obtain ⟨r1,r2,r3,r4,r5⟩:=rd_text (hEe ▸ he) hw
   obtain ⟨t1,t2,t3,t4⟩:=tex_zero (hEe ▸ he)
   rw [← hT] at r1 r2 r3 r4 r5
   subst he
   have hzz:(0≤zw∧zw≤16384)∧(0≤zh∧zh≤16384):=by
    unfold sizB at t2
    simpa [Bool.and_eq_true,decide_eq_true_eq] using t2
   have HR:Hid (∀ W,Below w.heap.size w W→Calls Tryz.prog 13 #[.string T] W fun e w'=>∃ u,e = .returned (.tuple #[u,.agg #[.int .i64 zw,.int .i64 zh],.int .i64 0,.int .i64 0])∧OwS W.heap.size w' u l∧Below W.heap.size W w'):=fun W hb=>by
    have q:=vread_any T W ((hE.1.on hb).mono hb.size) (hE.2.below hb)
    unfold RdQ at q
    rw [r1,r2,r3,r4,r5] at q
    exact q
   have HSm:Hid (∀ W u,LsS W (.slice oa n cap) l→LsS W u l→Calls Tryz.prog 14 #[.slice oa n cap,u] W fun e w'=>e = .returned (.bool true)∧Below W.heap.size W w'):=fun W u h h'=>by
    have q:=same16_any l l _ u W h h' (by omega)
    rw [samZ_self] at q
    exact q
   have HCk:Hid (∀ W,LsS W (.slice oa n cap) l→Calls Tryz.prog 15 #[.slice oa n cap] W fun e w'=>e = .returned (.int .i64 0)∧Below W.heap.size W w'):=fun W h=>by
    have q:=lcheck_any l _ W h hw.txs (xys_of hw)
    rw [t1] at q
    exact q
   obtain ⟨a,rfl⟩:∃ a:Nat,zw=a:=⟨zw.toNat,by omega⟩
   obtain ⟨b,rfl⟩:∃ b:Nat,zh=b:=⟨zh.toNat,by omega⟩
   have hmb:=mul_bd hzz.1.1 hzz.1.2 hzz.2.1 hzz.2.2
   have hwm:IntKind.i64.wrap ((a:Int) * b)=(a:Int) * b:=by rw [IntKind.wrap_i64];omega
   by_cases hab:4000<(a:Int) * b
   ·clear hv hw i1 i2 hc hE HT FR hT hEe hn h400 hcap r1 r2 r3 r4 r5 t1 t2 t3 t4 hmb hzz
    go_enter Tryz.func4,Tryz.ntmps4
    go_wp2_with fail
    obtain ⟨W0,hW0⟩:∃ W0,W0=(w.alloc (.cells #[.int .i64 (a:Int),.int .i64 (b:Int)] 23)).alloc (.cells #[.int .u8 c.r,.int .u8 c.g,.int .u8 c.b,.int .u8 c.a] 38):=⟨_,rfl⟩
    have H1:=show Hid _ from H0.out W0 hW0
    rw [← hW0]
    clear hW0 H0
    refine (HA.out _ H1.out.b).mono ?_
    rintro e w1 ⟨rfl,hb⟩
    have H2:=show Hid _ from H1.out.below hb
    clear hb H1 HA
    obtain ⟨z0,z1⟩:=Bk.at2 H2.out.z
    go_wp2_with fail
    refine (HX.out _ H2.out).mono ?_
    rintro e w2 ⟨rfl,hb⟩
    have H3:=show Hid _ from H2.out.below hb
    clear hb H2 HX z0 z1
    go_wp2_with fail
    refine (HR.out _ H3.out.b).mono ?_
    rintro e w3 ⟨u,rfl,hu,hb⟩
    have H4:=show Hid (VbF w (.slice oa n cap) l a b c (w3.alloc (.cells #[.int .i64 (a:Int),.int .i64 (b:Int)] 23))∧LsS (w3.alloc (.cells #[.int .i64 (a:Int),.int .i64 (b:Int)] 23)) u l) from ⟨(H3.out.below hb).alk _,OwS.lss (row_below hu ((Below.refl _ w3).alloc (Nat.le_refl _) _):OwS w2.heap.size _ u l)⟩
    clear hb hu H3 HR
    obtain ⟨z0,z1⟩:=Bk.at2 H4.out.1.z
    go_wp2_with fail
    refine (HSm.out _ _ H4.out.1.l H4.out.2).mono ?_
    rintro e w4 ⟨rfl,hb⟩
    have H5:=show Hid _ from H4.out.1.below hb
    clear hb H4 HSm z0 z1
    go_wp2_with fail
    refine (HCk.out _ H5.out.l).mono ?_
    rintro e w5 ⟨rfl,hb⟩
    have H6:=show Hid _ from H5.out.below hb
    clear hb H5 HCk
    obtain ⟨z0,z1⟩:=Bk.at2 H6.out.z
    have B6:=show Hid _ from H6.out.b
    clear H6
    go_wp2
    go_ret
    exact ⟨rfl,B6.out⟩
   ·obtain ⟨N,hN⟩:∃ N:Nat,(N:Int)=(a:Int) * b:=⟨((a:Int) * b).toNat,by omega⟩
    have hs:szB a b=true:=szB_iff.2 ⟨hzz.1.1,hzz.1.2,hzz.2.1,hzz.2.2,by omega⟩
    have HSc:Hid (∀ W,Below w.heap.size w W→Calls Tryz.prog 16 #[.string T,(Value.agg #[.int .u8 c.r,.int .u8 c.g,.int .u8 c.b,.int .u8 c.a])] W fun e w'=>∃ u,e = .returned (.tuple #[.agg #[.int .i64 (a:Nat),.int .i64 (b:Nat),u],.int .i64 0,.int .i64 0])∧OwC W.heap.size w' u (drwB a c N l)∧Below W.heap.size W w'):=fun W h=>vscreen_any FR T l a b N c W ⟨(hE.1.on h).mono h.size,hE.2.below h⟩ (fun W' h'=>HT W' (h.trans (h'.mono h.size))) r1 r2 r3 r4 r5 hs hN hw t1 hc
    have HBl:Hid (∀ W,Calls Tryz.prog 17 #[.agg #[.int .i64 (a:Nat),.int .i64 (b:Nat)],(Value.agg #[.int .u8 c.r,.int .u8 c.g,.int .u8 c.b,.int .u8 c.a])] W fun e w'=>∃ g,e = .returned (.tuple #[.agg #[.int .i64 (a:Nat),.int .i64 (b:Nat),.slice (some ⟨g,0,none⟩) N N],.int .i64 0])∧W.heap.size≤g∧Bk w' g (flatC (blkC c N)).toArray 65∧Below W.heap.size W w'):=fun W=>blank_ok a b c N W hs hN
    have HDr:Hid (∀ W g,Below w.heap.size w W→Bk W g (flatC (blkC c N)).toArray 65→LsS W (.slice oa n cap) l→Calls Tryz.prog 8 #[.agg #[.int .i64 (a:Nat),.int .i64 (b:Nat),.slice (some ⟨g,0,none⟩) N N],.slice oa n cap] W fun e w'=>∃ u,e = .returned (.tuple #[.agg #[.int .i64 (a:Nat),.int .i64 (b:Nat),u],.int .i64 0])∧Hid (OwC W.heap.size w' u (drwB a c N l)∧Below W.heap.size W w')):=fun W g hb h h'=>drawB_any FR a b N g c l _ W h hs hN h' hw t1 hc (fun W' hb'=>HT W' (hb.trans (hb'.mono hb.size)))
    have hdl:(drwB a c N l).length<1000000:=by
     unfold drwB
     rw [drwS_len,blk_len]
     omega
    have HSs:Hid (∀ W u v,LsC W u (drwB a c N l)→LsC W v (drwB a c N l)→Calls Tryz.prog 18 #[.agg #[.int .i64 (a:Nat),.int .i64 (b:Nat),u],.agg #[.int .i64 (a:Nat),.int .i64 (b:Nat),v]] W fun e w'=>e = .returned (.bool true)∧Below W.heap.size W w'):=fun W u v h h'=>sameScr_any a b _ u v W h h' hdl
    clear hv hw i1 i2 hc hE HT FR hT hEe hn h400 hcap r1 r2 r3 r4 r5 t1 t2 t3 t4 hmb hzz hs hN hdl
    go_enter Tryz.func4,Tryz.ntmps4
    go_wp2_with fail
    obtain ⟨W0,hW0⟩:∃ W0,W0=(w.alloc (.cells #[.int .i64 (a:Int),.int .i64 (b:Int)] 23)).alloc (.cells #[.int .u8 c.r,.int .u8 c.g,.int .u8 c.b,.int .u8 c.a] 38):=⟨_,rfl⟩
    have H1:=show Hid _ from H0.out W0 hW0
    rw [← hW0]
    clear hW0 H0
    refine (HA.out _ H1.out.b).mono ?_
    rintro e w1 ⟨rfl,hb⟩
    have H2:=show Hid _ from H1.out.below hb
    clear hb H1 HA
    obtain ⟨z0,z1⟩:=Bk.at2 H2.out.z
    go_wp2_with fail
    refine (HX.out _ H2.out).mono ?_
    rintro e w2 ⟨rfl,hb⟩
    have H3:=show Hid _ from H2.out.below hb
    clear hb H2 HX z0 z1
    go_wp2_with fail
    refine (HR.out _ H3.out.b).mono ?_
    rintro e w3 ⟨u,rfl,hu,hb⟩
    have H4:=show Hid (VbF w (.slice oa n cap) l a b c (w3.alloc (.cells #[.int .i64 (a:Int),.int .i64 (b:Int)] 23))∧LsS (w3.alloc (.cells #[.int .i64 (a:Int),.int .i64 (b:Int)] 23)) u l) from ⟨(H3.out.below hb).alk _,OwS.lss (row_below hu ((Below.refl _ w3).alloc (Nat.le_refl _) _):OwS w2.heap.size _ u l)⟩
    clear hb hu H3 HR
    obtain ⟨z0,z1⟩:=Bk.at2 H4.out.1.z
    go_wp2_with fail
    refine (HSm.out _ _ H4.out.1.l H4.out.2).mono ?_
    rintro e w4 ⟨rfl,hb⟩
    have H5:=show Hid _ from H4.out.1.below hb
    clear hb H4 HSm z0 z1
    go_wp2_with fail
    refine (HCk.out _ H5.out.l).mono ?_
    rintro e w5 ⟨rfl,hb⟩
    have H6:=show Hid _ from H5.out.below hb
    clear hb H5 HCk
    obtain ⟨z0,z1⟩:=Bk.at2 H6.out.z
    have m0:=Bk.cell H6.out.c 0
    have m1:=Bk.cell H6.out.c 1
    have m2:=Bk.cell H6.out.c 2
    have m3:=Bk.cell H6.out.c 3
    simp only [List.getElem?_toArray,List.getElem?_cons_zero,List.getElem?_cons_succ] at m0 m1 m2 m3
    go_wp2_with fail
    refine (HSc.out _ H6.out.b).mono ?_
    rintro e w6 ⟨u6,rfl,hu6,hb⟩
    obtain ⟨o6,c6,rfl,_,_⟩:=row_val hu6
    obtain ⟨N6,hN6⟩:∃ N6,N6=(drwB a c N l).length:=⟨_,rfl⟩
    rw [← hN6] at hu6 ⊢
    obtain ⟨sb,hsb⟩:∃ sb,sb=w6.heap.size:=⟨_,rfl⟩
    obtain ⟨W6,hW6⟩:∃ W6,W6=w6.alloc (.cells #[.int .i64 (a:Nat),.int .i64 (b:Nat),.slice o6 N6 c6] 26):=⟨_,rfl⟩
    have H7:=show Hid (VbF w (.slice oa n cap) l a b c W6∧LsC W6 (.slice o6 N6 c6) (drwB a c N l)∧Bk W6 sb #[.int .i64 (a:Nat),.int .i64 (b:Nat),.slice o6 N6 c6] 26∧N6=(drwB a c N l).length) from ⟨by rw [hW6];exact (H6.out.below hb).alk _,by rw [hW6];exact (OwC.lsc hu6).below ((Below.refl _ w6).alloc (Nat.le_refl _) _),by rw [hW6,hsb];exact Bk.new _ _ _,hN6⟩
    clear hb hu6 H6 HSc z0 z1 m0 m1 m2 m3 hN6
    obtain ⟨z0,z1⟩:=Bk.at2 H7.out.1.z
    have m0:=Bk.cell H7.out.1.c 0
    have m1:=Bk.cell H7.out.1.c 1
    have m2:=Bk.cell H7.out.1.c 2
    have m3:=Bk.cell H7.out.1.c 3
    simp only [List.getElem?_toArray,List.getElem?_cons_zero,List.getElem?_cons_succ] at m0 m1 m2 m3
    rw [hW6] at z0 z1 m0 m1 m2 m3
    go_wp2_with fail
    rw [← hW6,← hsb]
    clear hW6 hsb z0 z1 m0 m1 m2 m3
    refine (HBl.out _).mono ?_
    rintro e w7 ⟨g,rfl,_,hg,hb⟩
    have H8:=show Hid (∀ o,VbF w (.slice oa n cap) l a b c (w7.alloc o)∧LsC (w7.alloc o) (.slice o6 N6 c6) (drwB a c N l)∧Bk (w7.alloc o) sb #[.int .i64 (a:Nat),.int .i64 (b:Nat),.slice o6 N6 c6] 26∧Bk (w7.alloc o) g (flatC (blkC c N)).toArray 65∧N6=(drwB a c N l).length) from fun o=>⟨(H7.out.1.below hb).alk _,(H7.out.2.1.below hb).below ((Below.refl _ w7).alloc (Nat.le_refl _) _),Bk.alk (H7.out.2.2.1.below hb) _,Bk.alk hg _,H7.out.2.2.2⟩
    clear hb hg H7 HBl
    go_wp2_with fail
    refine (HDr.out _ g (H8.out _).1.b (H8.out _).2.2.2.1 (H8.out _).1.l).mono ?_
    rintro e w8 ⟨u8,rfl,h9⟩
    have h8:=H8.out (.cells #[.int .i64 (a:Nat),.int .i64 (b:Nat),.slice (some ⟨g,0,none⟩) N N] 26)
    obtain ⟨o8,c8,hu8,_,_⟩:=row_val h9.out.1
    rw [← h8.2.2.2.2] at hu8
    subst hu8
    have H9:=show Hid (∀ o,LsC (w8.alloc o) (.slice o6 N6 c6) (drwB a c N l)∧LsC (w8.alloc o) (.slice o8 N6 c8) (drwB a c N l)∧Bk (w8.alloc o) sb #[.int .i64 (a:Nat),.int .i64 (b:Nat),.slice o6 N6 c6] 26∧Below w.heap.size w (w8.alloc o)) from fun o=>⟨(h8.2.1.below h9.out.2).below ((Below.refl _ w8).alloc (Nat.le_refl _) _),(OwC.lsc h9.out.1).below ((Below.refl _ w8).alloc (Nat.le_refl _) _),Bk.alk (h8.2.2.1.below h9.out.2) _,((h8.1.below h9.out.2).alk o).b⟩
    clear h8 h9 H8 HDr
    have k3:=H9.out (.cells #[.int .i64 (a:Nat),.int .i64 (b:Nat),.slice o8 N6 c8] 26)
    have x0:=Bk.cell k3.2.2.1 0
    have x1:=Bk.cell k3.2.2.1 1
    have x2:=Bk.cell k3.2.2.1 2
    simp only [List.getElem?_toArray,List.getElem?_cons_zero,List.getElem?_cons_succ] at x0 x1 x2
    clear k3
    go_wp2_with fail
    refine (HSs.out _ _ _ (H9.out _).1 (H9.out _).2.1).mono ?_
    rintro e w9 ⟨rfl,hb⟩
    have B9:Hid (Below w.heap.size w w9):=(H9.out _).2.2.2.trans (hb.mono (H9.out _).2.2.2.size)
    clear hb H9 HSs x0 x1 x2
    go_wp2
    go_ret
    exact ⟨rfl,B9.out⟩
  ·have hTz:T=⟨#[]⟩:=by
    rw [hT]
    unfold texT
    rw [if_neg (by rw [← hEe];exact he)]
   subst hTz
   clear hv hw i1 i2 hc hE HT FR hT hEe hn h400 hcap
   go_enter Tryz.func4,Tryz.ntmps4
   go_wp2_with fail
   obtain ⟨W0,hW0⟩:∃ W0,W0=(w.alloc (.cells #[.int .i64 zw,.int .i64 zh] 23)).alloc (.cells #[.int .u8 c.r,.int .u8 c.g,.int .u8 c.b,.int .u8 c.a] 38):=⟨_,rfl⟩
   have H1:=show Hid _ from H0.out W0 hW0
   rw [← hW0]
   clear hW0 H0
   refine (HA.out _ H1.out.b).mono ?_
   rintro e w1 ⟨rfl,hb⟩
   have H2:=show Hid _ from H1.out.below hb
   clear hb H1 HA
   obtain ⟨z0,z1⟩:=Bk.at2 H2.out.z
   go_wp2_with fail
   refine (HX.out _ H2.out).mono ?_
   rintro e w2 ⟨rfl,hb⟩
   have B3:=show Hid (Below w.heap.size w w2) from (H2.out.below hb).b
   clear hb H2 HX z0 z1
   go_wp2
   go_ret
   exact ⟨rfl,B3.out⟩
end Go.Proofs.YtapachlhdgehjaaGreatDoor
