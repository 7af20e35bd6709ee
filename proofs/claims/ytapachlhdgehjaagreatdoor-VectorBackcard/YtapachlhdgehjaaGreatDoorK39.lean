/-
  Texts of this claim, one behind the other: what each is about stands ahead of it.
-/
import Derived.Test.YtapachlhdgehjaaGreatDoorK38
import Derived.Test.YtapachlhdgehjaaGreatDoorK29
/- Contracts of package vector's reader: stroke. -/
namespace Go.Proofs.YtapachlhdgehjaaGreatDoor
open Go.RowKit
def skF (s:ByteArray) (p:Nat):Nat→Nat→Nat ⊕ (St × Nat)
 | 0,_=>.inl p
 | f+1,k=>if bgB s p ((forF k).take (rnO fxB (forF k)))=true then (match lnL ((forF k).length+1) (forF k) s p zSo with
   | .inl q=>.inl q
   | .inr (st,q)=>.inr ({ st with k:=(k:Int) },q)) else skF s p f (k+1)
def skL (s:ByteArray) (p:Nat):Nat ⊕ (St × Nat):=skF s p 5 1
theorem skF_yes {s:ByteArray} {p f k:Nat} (h:bgB s p ((forF k).take (rnO fxB (forF k)))=true):skF s p (f+1) k=(match lnL ((forF k).length+1) (forF k) s p zSo with
   | .inl q=>.inl q
   | .inr (st,q)=>.inr ({ st with k:=(k:Int) },q)):=by rw [skF,if_pos h]
theorem skF_no {s:ByteArray} {p f k:Nat} (h:bgB s p ((forF k).take (rnO fxB (forF k)))=false):skF s p (f+1) k=skF s p f (k+1):=by rw [skF,if_neg (by simp [h])]
structure SkW (b rb:Nat) (s:ByteArray) (p:Nat) (R:Nat ⊕ (St × Nat)) (w:World) (k f:Nat) (wr:World):Prop where
 rd:Rd wr b s p
 rs:Bk wr rb (#[.int .u8 zSo.k,.int .i64 zSo.r.x,.int .i64 zSo.r.y,.int .i64 zSo.r.w,.int .i64 zSo.r.h,.int .u8 zSo.c.r,.int .u8 zSo.c.g,.int .u8 zSo.c.b,.int .u8 zSo.c.a,.int .u8 zSo.b.r,.int .u8 zSo.b.g,.int .u8 zSo.b.b,.int .u8 zSo.b.a,.string zSo.t,.int .i64 zSo.n]) 55
 kp:Kp2 b b w wr
 eq:skF s p f k=R
 fu:k+f=6
set_option maxRecDepth 10000 in
set_option maxHeartbeats 16000000 in
theorem strokeR_any (B b:Nat) (s:ByteArray) (p:Nat) (w:World) (h:Rd w b s p) (hp:p≤s.size) (hs:s.size≤100000) (hE:EnR B w) (hB:B≤b) :
  Calls Tryz.prog 69 #[.pointer (some ⟨b,0,none⟩)] w fun e w'=>LnQ b s (skL s p) w e w':=by
 obtain ⟨R,hR⟩:∃ R,R=skL s p:=⟨_,rfl⟩
 rw [← hR]
 have hbl:=Bk.lt h
 obtain ⟨rb,hrb⟩:∃ rb,rb=w.heap.size:=⟨_,rfl⟩
 have HW:Hid (EnR B w∧B≤b∧b<w.heap.size∧rb=w.heap.size):=⟨hE,hB,hbl,hrb⟩
 have H0:Hid (SkW b rb s p R w 1 5 (w.alloc (.cells (#[.int .u8 zSo.k,.int .i64 zSo.r.x,.int .i64 zSo.r.y,.int .i64 zSo.r.w,.int .i64 zSo.r.h,.int .u8 zSo.c.r,.int .u8 zSo.c.g,.int .u8 zSo.c.b,.int .u8 zSo.c.a,.int .u8 zSo.b.r,.int .u8 zSo.b.g,.int .u8 zSo.b.b,.int .u8 zSo.b.a,.string zSo.t,.int .i64 zSo.n]) 55))):=by
  have b1:Below w.heap.size w (w.alloc (.cells (#[.int .u8 zSo.k,.int .i64 zSo.r.x,.int .i64 zSo.r.y,.int .i64 zSo.r.w,.int .i64 zSo.r.h,.int .u8 zSo.c.r,.int .u8 zSo.c.g,.int .u8 zSo.c.b,.int .u8 zSo.c.a,.int .u8 zSo.b.r,.int .u8 zSo.b.g,.int .u8 zSo.b.b,.int .u8 zSo.b.a,.string zSo.t,.int .i64 zSo.n]) 55)):=(Below.refl _ w).alloc (Nat.le_refl _) _
  exact ⟨h.below b1,by rw [hrb];exact Bk.new _ _ _,Kp2.of_below b1,hR.symm,rfl⟩
 have hn1:¬ rb=b:=by omega
 have hn2:¬ b=rb:=by omega
 clear h hE hB hbl hR
 go_enter Tryz.func69,Tryz.ntmps69
 go_wp2_with fail
 rw [← hrb]
 clear hrb
 go_loopw [4] (fun kv wr=>∃ (k f:Nat),kv = .int .u8 k∧k≤6∧1≤k∧Hid (SkW b rb s p R w k f wr)) (fun kv _=>6 - (intOf kv).toNat)
 case atStart=>exact ⟨1,5,rfl,by decide,by decide,H0⟩
 case round =>
  obtain ⟨k,f,rfl,hk6,hk1,HR⟩:=hrel
  clear H0
  by_cases h6:k=6
  ·subst h6
   have HRR:Hid (R = .inl p):=by
    have:=HR.out.fu
    obtain rfl:f=0:=by omega
    exact HR.out.eq.symm
   have HQ:Hid (Rd wr b s p∧Bk wr rb (#[.int .u8 zSo.k,.int .i64 zSo.r.x,.int .i64 zSo.r.y,.int .i64 zSo.r.w,.int .i64 zSo.r.h,.int .u8 zSo.c.r,.int .u8 zSo.c.g,.int .u8 zSo.c.b,.int .u8 zSo.c.a,.int .u8 zSo.b.r,.int .u8 zSo.b.g,.int .u8 zSo.b.b,.int .u8 zSo.b.a,.string zSo.t,.int .i64 zSo.n]) 55∧Kp2 b b w wr):=⟨HR.out.rd,HR.out.rs,HR.out.kp⟩
   clear HR
   go_wp2_with fail
   refine (refuse_any b s p 0 ⟨#[97,32,115,104,97,112,101,44,32,111,114,32,116,104,101,32,108,97,115,116,32,108,105,110,101]⟩ _ HQ.out.1 (by omega) (by decide)).mono ?_
   rintro e w2 ⟨v2,rfl,hv2,hb2⟩
   have HQ2:Hid (IsW wr.heap.size w2 v2 p∧Bk w2 rb (#[.int .u8 zSo.k,.int .i64 zSo.r.x,.int .i64 zSo.r.y,.int .i64 zSo.r.w,.int .i64 zSo.r.h,.int .u8 zSo.c.r,.int .u8 zSo.c.g,.int .u8 zSo.c.b,.int .u8 zSo.c.a,.int .u8 zSo.b.r,.int .u8 zSo.b.g,.int .u8 zSo.b.b,.int .u8 zSo.b.a,.string zSo.t,.int .i64 zSo.n]) 55∧Kp2 b b w w2∧rb<wr.heap.size∧w.heap.size≤wr.heap.size∧b<wr.heap.size):=⟨by rw [Nat.add_zero] at hv2;exact hv2,HQ.out.2.1.below hb2,HQ.out.2.2.trans (Kp2.of_below hb2),HQ.out.2.1.lt,HQ.out.2.2.size,Bk.lt HQ.out.1⟩
   clear hv2 hb2 HQ
   go_wp2_with (refine wpList_store_row rfl 55 (.tmp 2) (.tmp 34) rfl rb #[.int .u8 0,.int .i64 0,.int .i64 0,.int .i64 0,.int .i64 0,.int .u8 0,.int .u8 0,.int .u8 0,.int .u8 0,.int .u8 0,.int .u8 0,.int .u8 0,.int .u8 0,.string ⟨#[]⟩,.int .i64 0] rfl rfl 55 _ HQ2.out.2.1 size_st rfl (by simp [Value.oneCell']) ?_)
   obtain ⟨W3,hW3⟩:∃ W3,W3=w2.setRow rb #[.int .u8 0,.int .i64 0,.int .i64 0,.int .i64 0,.int .i64 0,.int .u8 0,.int .u8 0,.int .u8 0,.int .u8 0,.int .u8 0,.int .u8 0,.int .u8 0,.int .u8 0,.string ⟨#[]⟩,.int .i64 0]:=⟨_,rfl⟩
   rw [← hW3]
   have hB3:Bk W3 rb #[.int .u8 0,.int .i64 0,.int .i64 0,.int .i64 0,.int .i64 0,.int .u8 0,.int .u8 0,.int .u8 0,.int .u8 0,.int .u8 0,.int .u8 0,.int .u8 0,.int .u8 0,.string ⟨#[]⟩,.int .i64 0] 55:=by rw [hW3];exact setRow_heap _ _ _ _ _ _ HQ2.out.2.1
   have hld:(loadVar 55 ⟨rb,0,none⟩).run Tryz.prog W3 = .ok (.agg #[.int .u8 0,.int .i64 0,.int .i64 0,.int .i64 0,.int .i64 0,.int .u8 0,.int .u8 0,.int .u8 0,.int .u8 0,.int .u8 0,.int .u8 0,.int .u8 0,.int .u8 0,.string ⟨#[]⟩,.int .i64 0]) W3:=run_loadVar_row W3 rb 55 55 #[.int .u8 0,.int .i64 0,.int .i64 0,.int .i64 0,.int .i64 0,.int .u8 0,.int .u8 0,.int .u8 0,.int .u8 0,.int .u8 0,.int .u8 0,.int .u8 0,.int .u8 0,.string ⟨#[]⟩,.int .i64 0] (0,0) _ hB3 Tryz.underlying55 rfl size_st
   have hK3:Kp2 b rb w2 W3:=by rw [hW3];exact Kp2.row _ _ _ _
   have hK4:Kp2 rb rb w2 W3:=by rw [hW3];exact Kp2.row _ _ _ _
   refine bodyPost_ret (v:=.tuple #[.agg #[.int .u8 0,.int .i64 0,.int .i64 0,.int .i64 0,.int .i64 0,.int .u8 0,.int .u8 0,.int .u8 0,.int .u8 0,.int .u8 0,.int .u8 0,.int .u8 0,.int .u8 0,.string ⟨#[]⟩,.int .i64 0],v2]) ?_ rfl (lnq_none HRR.out rfl ⟨(HQ2.out.1.keep hK3 HQ2.out.2.2.2.2.2 HQ2.out.2.2.2.1).weaken HQ2.out.2.2.2.2.1,HQ2.out.2.2.1.fresh hK3 (by have:=HW.out;omega)⟩)
   simp [results,Tryz.results69,asAddr,hld]
  have hk5:k≤5:=by omega
  have hk5':(k:Int)≤5:=by omega
  obtain ⟨f,rfl⟩:∃ f',f=f'+1:=by
   have:=HR.out.fu
   cases f with
   | zero=>omega
   | succ f=>exact ⟨f,rfl⟩
  obtain ⟨FO,hFO⟩:∃ FO:ByteArray,FO=⟨(forF k).toArray⟩:=⟨_,rfl⟩
  have hFl:FO.data.toList=forF k:=by rw [hFO]
  have hFz:FO.size≤100:=by
   have e:FO.data.toList.length=FO.size:=by simp
   rw [← e,hFl]
   exact forF_len k
  have HFo:Hid (∀ W,Calls Tryz.prog 66 #[.int .u8 k] W fun e w'=>e = .returned (.string FO)∧w'=W):=fun W=>by rw [hFO];exact vform_any k W (by omega) (by omega)
  obtain ⟨d,hd⟩:∃ d,d=rnO fxB (forF k):=⟨_,rfl⟩
  have HFx:Hid (∀ W,Calls Tryz.prog 102 #[.string FO] W fun e w'=>e = .returned (.int .i64 d)∧w'=W):=fun W=>by rw [hd,← hFl];exact fixed_any FO W (by omega)
  have hdl:d≤FO.size:=by
   have:=rnO_le fxB (forF k)
   have e:FO.data.toList.length=FO.size:=by simp
   rw [hd,← e,hFl]
   exact this
  have hdl':(d:Int)≤FO.size:=by omega
  obtain ⟨FX,hFX⟩:∃ FX,FX=FO.extract 0 d:=⟨_,rfl⟩
  have hXl:FX.data.toList=(forF k).take (rnO fxB (forF k)):=by rw [hFX,ext_take,hFl,hd]
  have HBg:Hid (Calls Tryz.prog 68 #[.pointer (some ⟨b,0,none⟩),.string FX] wr fun e w'=>e = .returned (.bool (bgB s p ((forF k).take (rnO fxB (forF k)))))∧Below wr.heap.size wr w'):=by rw [← hXl];exact begins_any b s p FX wr HR.out.rd hp
  have HLi:Hid (∀ W,Rd W b s p→Kp2 b b w W→Calls Tryz.prog 67 #[.pointer (some ⟨b,0,none⟩),.string FO] W fun e w'=>LnQ b s (lnL ((forF k).length+1) (forF k) s p zSo) W e w'):=fun W h1 h2=>by
   have q:=lineR_any B b s p FO W h1 hp hs (HW.out.1.on (h2.below (by have:=HW.out;omega) HW.out.2.1 HW.out.2.1)) HW.out.2.1 (by omega)
   have e:FO.size=(forF k).length:=by rw [← hFl];simp
   rw [hFl,e] at q
   exact q
  have HFX:=show Hid _ from hFX
  clear hFX hXl hFl hFO hd
  cases hbg:bgB s p ((forF k).take (rnO fxB (forF k))) with
  | false =>
   rw [hbg] at HBg
   have HN:Hid (∀ W,Below wr.heap.size wr W→SkW b rb s p R w (k+1) f W):=fun W hb=>⟨HR.out.rd.below hb,HR.out.rs.below hb,HR.out.kp.trans (Kp2.of_below hb),by rw [← HR.out.eq];exact (skF_no hbg).symm,by have:=HR.out.fu;omega⟩
   clear hbg HLi HR
   go_wp2_with fail
   refine (HFo.out _).mono ?_
   rintro e w' ⟨rfl,hw⟩
   obtain rfl:=hw.symm
   go_wp2_with fail
   refine (HFx.out _).mono ?_
   rintro e w' ⟨rfl,hw⟩
   obtain rfl:=hw.symm
   go_wp2_with fail
   rw [← HFX.out]
   refine HBg.out.mono ?_
   rintro e w1 ⟨rfl,hb1⟩
   have HF:Hid (SkW b rb s p R w (k+1) f w1):=HN.out _ hb1
   clear hb1 HN HBg HFo HFx HFX
   go_wp2
   go_roundw
   case rel=>exact ⟨k+1,f,by go_num,by omega,by omega,HF⟩
   case measure=>simp [intOf];omega
  | true =>
   rw [hbg] at HBg
   have HRe:Hid ((match lnL ((forF k).length+1) (forF k) s p zSo with
   | .inl q=>.inl q
   | .inr (st,q)=>.inr ({ st with k:=(k:Int) },q))=R):=by rw [← HR.out.eq];exact (skF_yes hbg).symm
   have HQ0:Hid (∀ W,Below wr.heap.size wr W→Rd W b s p∧Bk W rb (#[.int .u8 zSo.k,.int .i64 zSo.r.x,.int .i64 zSo.r.y,.int .i64 zSo.r.w,.int .i64 zSo.r.h,.int .u8 zSo.c.r,.int .u8 zSo.c.g,.int .u8 zSo.c.b,.int .u8 zSo.c.a,.int .u8 zSo.b.r,.int .u8 zSo.b.g,.int .u8 zSo.b.b,.int .u8 zSo.b.a,.string zSo.t,.int .i64 zSo.n]) 55∧Kp2 b b w W):=fun W hb=>⟨HR.out.rd.below hb,HR.out.rs.below hb,HR.out.kp.trans (Kp2.of_below hb)⟩
   clear hbg HR
   generalize lnL ((forF k).length+1) (forF k) s p zSo=L at *
   go_wp2_with fail
   refine (HFo.out _).mono ?_
   rintro e w' ⟨rfl,hw⟩
   obtain rfl:=hw.symm
   go_wp2_with fail
   refine (HFx.out _).mono ?_
   rintro e w' ⟨rfl,hw⟩
   obtain rfl:=hw.symm
   go_wp2_with fail
   rw [← HFX.out]
   refine HBg.out.mono ?_
   rintro e w1 ⟨rfl,hb1⟩
   have HQ:Hid (Rd w1 b s p∧Bk w1 rb (#[.int .u8 zSo.k,.int .i64 zSo.r.x,.int .i64 zSo.r.y,.int .i64 zSo.r.w,.int .i64 zSo.r.h,.int .u8 zSo.c.r,.int .u8 zSo.c.g,.int .u8 zSo.c.b,.int .u8 zSo.c.a,.int .u8 zSo.b.r,.int .u8 zSo.b.g,.int .u8 zSo.b.b,.int .u8 zSo.b.a,.string zSo.t,.int .i64 zSo.n]) 55∧Kp2 b b w w1):=HQ0.out _ hb1
   clear hb1 HQ0 HBg HFo HFx HFX
   go_wp2_with fail
   refine (HLi.out _ HQ.out.1 HQ.out.2.2).mono ?_
   intro e w2 hq
   have HQr:Hid (rb<w1.heap.size∧b<w1.heap.size∧w.heap.size≤w1.heap.size):=⟨HQ.out.2.1.lt,Bk.lt HQ.out.1,HQ.out.2.2.size⟩
   cases L with
   | inl q =>
    obtain ⟨v,rfl,hv,hk2⟩:=hq
    obtain ⟨gi,hgi⟩:=isw_iface hv
    have HRR:Hid (R = .inl q):=HRe.out.symm
    have HQ5:Hid (IsW w1.heap.size w2 v q∧Bk w2 rb (#[.int .u8 zSo.k,.int .i64 zSo.r.x,.int .i64 zSo.r.y,.int .i64 zSo.r.w,.int .i64 zSo.r.h,.int .u8 zSo.c.r,.int .u8 zSo.c.g,.int .u8 zSo.c.b,.int .u8 zSo.c.a,.int .u8 zSo.b.r,.int .u8 zSo.b.g,.int .u8 zSo.b.b,.int .u8 zSo.b.a,.string zSo.t,.int .i64 zSo.n]) 55∧Kp2 b b w w2):=⟨hv,Kp2.bk hk2 HQ.out.2.1 hn1 hn1,HQ.out.2.2.trans hk2⟩
    clear hv hk2 HQ HRe HLi
    subst hgi
    have b1:Below w2.heap.size w2 (w2.alloc (.cells (#[.int .u8 zSo.k,.int .i64 zSo.r.x,.int .i64 zSo.r.y,.int .i64 zSo.r.w,.int .i64 zSo.r.h,.int .u8 zSo.c.r,.int .u8 zSo.c.g,.int .u8 zSo.c.b,.int .u8 zSo.c.a,.int .u8 zSo.b.r,.int .u8 zSo.b.g,.int .u8 zSo.b.b,.int .u8 zSo.b.a,.string zSo.t,.int .i64 zSo.n]) 55)):=(Below.refl _ w2).alloc (Nat.le_refl _) _
    have HQ6:Hid (IsW w1.heap.size (w2.alloc (.cells (#[.int .u8 zSo.k,.int .i64 zSo.r.x,.int .i64 zSo.r.y,.int .i64 zSo.r.w,.int .i64 zSo.r.h,.int .u8 zSo.c.r,.int .u8 zSo.c.g,.int .u8 zSo.c.b,.int .u8 zSo.c.a,.int .u8 zSo.b.r,.int .u8 zSo.b.g,.int .u8 zSo.b.b,.int .u8 zSo.b.a,.string zSo.t,.int .i64 zSo.n]) 55)) (.iface 163 (.pointer (some ⟨gi,0,none⟩))) q∧Bk (w2.alloc (.cells (#[.int .u8 zSo.k,.int .i64 zSo.r.x,.int .i64 zSo.r.y,.int .i64 zSo.r.w,.int .i64 zSo.r.h,.int .u8 zSo.c.r,.int .u8 zSo.c.g,.int .u8 zSo.c.b,.int .u8 zSo.c.a,.int .u8 zSo.b.r,.int .u8 zSo.b.g,.int .u8 zSo.b.b,.int .u8 zSo.b.a,.string zSo.t,.int .i64 zSo.n]) 55)) rb (#[.int .u8 zSo.k,.int .i64 zSo.r.x,.int .i64 zSo.r.y,.int .i64 zSo.r.w,.int .i64 zSo.r.h,.int .u8 zSo.c.r,.int .u8 zSo.c.g,.int .u8 zSo.c.b,.int .u8 zSo.c.a,.int .u8 zSo.b.r,.int .u8 zSo.b.g,.int .u8 zSo.b.b,.int .u8 zSo.b.a,.string zSo.t,.int .i64 zSo.n]) 55∧Kp2 b b w (w2.alloc (.cells (#[.int .u8 zSo.k,.int .i64 zSo.r.x,.int .i64 zSo.r.y,.int .i64 zSo.r.w,.int .i64 zSo.r.h,.int .u8 zSo.c.r,.int .u8 zSo.c.g,.int .u8 zSo.c.b,.int .u8 zSo.c.a,.int .u8 zSo.b.r,.int .u8 zSo.b.g,.int .u8 zSo.b.b,.int .u8 zSo.b.a,.string zSo.t,.int .i64 zSo.n]) 55))):=⟨HQ5.out.1.keep (Kp2.of_below (b:=b) (c:=rb) b1) HQr.out.2.1 HQr.out.1,HQ5.out.2.1.below b1,HQ5.out.2.2.trans (Kp2.of_below b1)⟩
    clear HQ5 b1
    go_wp2_with (refine wpList_store_row rfl 55 (.tmp 2) (.tmp 29) rfl rb #[.int .u8 0,.int .i64 0,.int .i64 0,.int .i64 0,.int .i64 0,.int .u8 0,.int .u8 0,.int .u8 0,.int .u8 0,.int .u8 0,.int .u8 0,.int .u8 0,.int .u8 0,.string ⟨#[]⟩,.int .i64 0] rfl rfl 55 _ HQ6.out.2.1 size_st rfl (by simp [Value.oneCell']) ?_)
    obtain ⟨W3,hW3⟩:∃ W3,W3=(w2.alloc (.cells (#[.int .u8 zSo.k,.int .i64 zSo.r.x,.int .i64 zSo.r.y,.int .i64 zSo.r.w,.int .i64 zSo.r.h,.int .u8 zSo.c.r,.int .u8 zSo.c.g,.int .u8 zSo.c.b,.int .u8 zSo.c.a,.int .u8 zSo.b.r,.int .u8 zSo.b.g,.int .u8 zSo.b.b,.int .u8 zSo.b.a,.string zSo.t,.int .i64 zSo.n]) 55)).setRow rb #[.int .u8 0,.int .i64 0,.int .i64 0,.int .i64 0,.int .i64 0,.int .u8 0,.int .u8 0,.int .u8 0,.int .u8 0,.int .u8 0,.int .u8 0,.int .u8 0,.int .u8 0,.string ⟨#[]⟩,.int .i64 0]:=⟨_,rfl⟩
    rw [← hW3]
    have hB3:Bk W3 rb #[.int .u8 0,.int .i64 0,.int .i64 0,.int .i64 0,.int .i64 0,.int .u8 0,.int .u8 0,.int .u8 0,.int .u8 0,.int .u8 0,.int .u8 0,.int .u8 0,.int .u8 0,.string ⟨#[]⟩,.int .i64 0] 55:=by rw [hW3];exact setRow_heap _ _ _ _ _ _ HQ6.out.2.1
    have hld:(loadVar 55 ⟨rb,0,none⟩).run Tryz.prog W3 = .ok (.agg #[.int .u8 0,.int .i64 0,.int .i64 0,.int .i64 0,.int .i64 0,.int .u8 0,.int .u8 0,.int .u8 0,.int .u8 0,.int .u8 0,.int .u8 0,.int .u8 0,.int .u8 0,.string ⟨#[]⟩,.int .i64 0]) W3:=run_loadVar_row W3 rb 55 55 #[.int .u8 0,.int .i64 0,.int .i64 0,.int .i64 0,.int .i64 0,.int .u8 0,.int .u8 0,.int .u8 0,.int .u8 0,.int .u8 0,.int .u8 0,.int .u8 0,.int .u8 0,.string ⟨#[]⟩,.int .i64 0] (0,0) _ hB3 Tryz.underlying55 rfl size_st
    have hK3:Kp2 b rb (w2.alloc (.cells (#[.int .u8 zSo.k,.int .i64 zSo.r.x,.int .i64 zSo.r.y,.int .i64 zSo.r.w,.int .i64 zSo.r.h,.int .u8 zSo.c.r,.int .u8 zSo.c.g,.int .u8 zSo.c.b,.int .u8 zSo.c.a,.int .u8 zSo.b.r,.int .u8 zSo.b.g,.int .u8 zSo.b.b,.int .u8 zSo.b.a,.string zSo.t,.int .i64 zSo.n]) 55)) W3:=by rw [hW3];exact Kp2.row _ _ _ _
    have hK4:Kp2 rb rb (w2.alloc (.cells (#[.int .u8 zSo.k,.int .i64 zSo.r.x,.int .i64 zSo.r.y,.int .i64 zSo.r.w,.int .i64 zSo.r.h,.int .u8 zSo.c.r,.int .u8 zSo.c.g,.int .u8 zSo.c.b,.int .u8 zSo.c.a,.int .u8 zSo.b.r,.int .u8 zSo.b.g,.int .u8 zSo.b.b,.int .u8 zSo.b.a,.string zSo.t,.int .i64 zSo.n]) 55)) W3:=by rw [hW3];exact Kp2.row _ _ _ _
    refine bodyPost_ret (v:=.tuple #[.agg #[.int .u8 0,.int .i64 0,.int .i64 0,.int .i64 0,.int .i64 0,.int .u8 0,.int .u8 0,.int .u8 0,.int .u8 0,.int .u8 0,.int .u8 0,.int .u8 0,.int .u8 0,.string ⟨#[]⟩,.int .i64 0],(.iface 163 (.pointer (some ⟨gi,0,none⟩)))]) ?_ rfl (lnq_none HRR.out rfl ⟨(HQ6.out.1.keep hK3 HQr.out.2.1 HQr.out.1).weaken HQr.out.2.2,HQ6.out.2.2.fresh hK3 (by have:=HW.out;omega)⟩)
    simp [results,Tryz.results69,asAddr,hld]
   | inr L2 =>
    obtain ⟨st,q⟩:=L2
    obtain ⟨rfl,hr2,hq2,hk2⟩:=hq
    have HRR:Hid (R = .inr ({ st with k:=(k:Int) },q)):=HRe.out.symm
    have hrbz:rb<w2.heap.size:=Nat.lt_of_lt_of_le HQr.out.1 hk2.size
    have hbz:b<w2.heap.size:=Nat.lt_of_lt_of_le HQr.out.2.1 hk2.size
    have HQ6:Hid (Rd (w2.alloc (.cells #[.int .u8 (k:Int),.int .i64 st.r.x,.int .i64 st.r.y,.int .i64 st.r.w,.int .i64 st.r.h,.int .u8 st.c.r,.int .u8 st.c.g,.int .u8 st.c.b,.int .u8 st.c.a,.int .u8 st.b.r,.int .u8 st.b.g,.int .u8 st.b.b,.int .u8 st.b.a,.string st.t,.int .i64 st.n] 55)) b s q∧Bk (w2.alloc (.cells #[.int .u8 (k:Int),.int .i64 st.r.x,.int .i64 st.r.y,.int .i64 st.r.w,.int .i64 st.r.h,.int .u8 st.c.r,.int .u8 st.c.g,.int .u8 st.c.b,.int .u8 st.c.a,.int .u8 st.b.r,.int .u8 st.b.g,.int .u8 st.b.b,.int .u8 st.b.a,.string st.t,.int .i64 st.n] 55)) rb (#[.int .u8 zSo.k,.int .i64 zSo.r.x,.int .i64 zSo.r.y,.int .i64 zSo.r.w,.int .i64 zSo.r.h,.int .u8 zSo.c.r,.int .u8 zSo.c.g,.int .u8 zSo.c.b,.int .u8 zSo.c.a,.int .u8 zSo.b.r,.int .u8 zSo.b.g,.int .u8 zSo.b.b,.int .u8 zSo.b.a,.string zSo.t,.int .i64 zSo.n]) 55∧Kp2 b b w (w2.alloc (.cells #[.int .u8 (k:Int),.int .i64 st.r.x,.int .i64 st.r.y,.int .i64 st.r.w,.int .i64 st.r.h,.int .u8 st.c.r,.int .u8 st.c.g,.int .u8 st.c.b,.int .u8 st.c.a,.int .u8 st.b.r,.int .u8 st.b.g,.int .u8 st.b.b,.int .u8 st.b.a,.string st.t,.int .i64 st.n] 55))):=by
     have b1:Below w2.heap.size w2 (w2.alloc (.cells #[.int .u8 (k:Int),.int .i64 st.r.x,.int .i64 st.r.y,.int .i64 st.r.w,.int .i64 st.r.h,.int .u8 st.c.r,.int .u8 st.c.g,.int .u8 st.c.b,.int .u8 st.c.a,.int .u8 st.b.r,.int .u8 st.b.g,.int .u8 st.b.b,.int .u8 st.b.a,.string st.t,.int .i64 st.n] 55)):=(Below.refl _ w2).alloc (Nat.le_refl _) _
     exact ⟨hr2.below b1,(Kp2.bk hk2 HQ.out.2.1 hn1 hn1).below b1,(HQ.out.2.2.trans hk2).trans (Kp2.of_below b1)⟩
    have hm1:¬ w2.heap.size=rb:=by omega
    have hm2:¬ rb=w2.heap.size:=by omega
    clear hr2 hk2 HQ HRe HLi
    go_wp2_with (refine wpList_store_row rfl 55 (.tmp 2) (.tmp 33) rfl rb #[.int .u8 (k:Int),.int .i64 st.r.x,.int .i64 st.r.y,.int .i64 st.r.w,.int .i64 st.r.h,.int .u8 st.c.r,.int .u8 st.c.g,.int .u8 st.c.b,.int .u8 st.c.a,.int .u8 st.b.r,.int .u8 st.b.g,.int .u8 st.b.b,.int .u8 st.b.a,.string st.t,.int .i64 st.n] rfl rfl 55 _ HQ6.out.2.1 size_st rfl (by simp [Value.oneCell']) ?_)
    obtain ⟨W3,hW3⟩:∃ W3,W3=(w2.alloc (.cells #[.int .u8 (k:Int),.int .i64 st.r.x,.int .i64 st.r.y,.int .i64 st.r.w,.int .i64 st.r.h,.int .u8 st.c.r,.int .u8 st.c.g,.int .u8 st.c.b,.int .u8 st.c.a,.int .u8 st.b.r,.int .u8 st.b.g,.int .u8 st.b.b,.int .u8 st.b.a,.string st.t,.int .i64 st.n] 55)).setRow rb #[.int .u8 (k:Int),.int .i64 st.r.x,.int .i64 st.r.y,.int .i64 st.r.w,.int .i64 st.r.h,.int .u8 st.c.r,.int .u8 st.c.g,.int .u8 st.c.b,.int .u8 st.c.a,.int .u8 st.b.r,.int .u8 st.b.g,.int .u8 st.b.b,.int .u8 st.b.a,.string st.t,.int .i64 st.n]:=⟨_,rfl⟩
    rw [← hW3]
    have hB3:Bk W3 rb #[.int .u8 (k:Int),.int .i64 st.r.x,.int .i64 st.r.y,.int .i64 st.r.w,.int .i64 st.r.h,.int .u8 st.c.r,.int .u8 st.c.g,.int .u8 st.c.b,.int .u8 st.c.a,.int .u8 st.b.r,.int .u8 st.b.g,.int .u8 st.b.b,.int .u8 st.b.a,.string st.t,.int .i64 st.n] 55:=by rw [hW3];exact setRow_heap _ _ _ _ _ _ HQ6.out.2.1
    have hld:(loadVar 55 ⟨rb,0,none⟩).run Tryz.prog W3 = .ok (.agg #[.int .u8 (k:Int),.int .i64 st.r.x,.int .i64 st.r.y,.int .i64 st.r.w,.int .i64 st.r.h,.int .u8 st.c.r,.int .u8 st.c.g,.int .u8 st.c.b,.int .u8 st.c.a,.int .u8 st.b.r,.int .u8 st.b.g,.int .u8 st.b.b,.int .u8 st.b.a,.string st.t,.int .i64 st.n]) W3:=run_loadVar_row W3 rb 55 55 #[.int .u8 (k:Int),.int .i64 st.r.x,.int .i64 st.r.y,.int .i64 st.r.w,.int .i64 st.r.h,.int .u8 st.c.r,.int .u8 st.c.g,.int .u8 st.c.b,.int .u8 st.c.a,.int .u8 st.b.r,.int .u8 st.b.g,.int .u8 st.b.b,.int .u8 st.b.a,.string st.t,.int .i64 st.n] (0,0) _ hB3 Tryz.underlying55 rfl size_st
    have hK3:Kp2 b rb (w2.alloc (.cells #[.int .u8 (k:Int),.int .i64 st.r.x,.int .i64 st.r.y,.int .i64 st.r.w,.int .i64 st.r.h,.int .u8 st.c.r,.int .u8 st.c.g,.int .u8 st.c.b,.int .u8 st.c.a,.int .u8 st.b.r,.int .u8 st.b.g,.int .u8 st.b.b,.int .u8 st.b.a,.string st.t,.int .i64 st.n] 55)) W3:=by rw [hW3];exact Kp2.row _ _ _ _
    have hK4:Kp2 rb rb (w2.alloc (.cells #[.int .u8 (k:Int),.int .i64 st.r.x,.int .i64 st.r.y,.int .i64 st.r.w,.int .i64 st.r.h,.int .u8 st.c.r,.int .u8 st.c.g,.int .u8 st.c.b,.int .u8 st.c.a,.int .u8 st.b.r,.int .u8 st.b.g,.int .u8 st.b.b,.int .u8 st.b.a,.string st.t,.int .i64 st.n] 55)) W3:=by rw [hW3];exact Kp2.row _ _ _ _
    refine bodyPost_ret (v:=.tuple #[.agg #[.int .u8 (k:Int),.int .i64 st.r.x,.int .i64 st.r.y,.int .i64 st.r.w,.int .i64 st.r.h,.int .u8 st.c.r,.int .u8 st.c.g,.int .u8 st.c.b,.int .u8 st.c.a,.int .u8 st.b.r,.int .u8 st.b.g,.int .u8 st.b.b,.int .u8 st.b.a,.string st.t,.int .i64 st.n],.nilIface]) ?_ rfl (lnq_some HRR.out rfl ⟨Kp2.bk hK4 HQ6.out.1 hn2 hn2,hq2,HQ6.out.2.2.fresh hK3 (by have:=HW.out;omega)⟩)
    simp [results,Tryz.results69,asAddr,hld]
end Go.Proofs.YtapachlhdgehjaaGreatDoor

/- Contracts of package vector's reader: shapes, in plain words. -/
namespace Go.Proofs.YtapachlhdgehjaaGreatDoor
open Go.RowKit
def vsF (s:ByteArray):Nat→Nat→List St→Nat ⊕ List St
 | 0,_,acc=>.inr acc
 | f+1,p,acc=>if bgB s p lstF=true then (if p+10<s.size then .inl (p+10) else .inr acc) else
  match skL s p with
  | .inl q=>.inl q
  | .inr (st,q)=>vsF s f q (acc++[st])
def vsR (s:ByteArray):Nat ⊕ (List St × Int × Int) :=
 match lnL 22 hedF s 0 zSo with
 | .inl q=>.inl q
 | .inr (h,p)=>match vsF s (s.size+1) p [] with
  | .inl q=>.inl q
  | .inr l=>.inr (l,h.r.w,h.r.h)
theorem vsF_last {s:ByteArray} {f p:Nat} {acc:List St} (h:bgB s p lstF=true):vsF s (f+1) p acc=if p+10<s.size then .inl (p+10) else .inr acc:=by rw [vsF,if_pos h]
theorem vsF_bad {s:ByteArray} {f p q:Nat} {acc:List St} (h:bgB s p lstF=false) (h2:skL s p = .inl q):vsF s (f+1) p acc = .inl q:=by rw [vsF,if_neg (by simp [h]),h2]
theorem vsF_go {s:ByteArray} {f p q:Nat} {acc:List St} {st:St} (h:bgB s p lstF=false) (h2:skL s p = .inr (st,q)):vsF s (f+1) p acc=vsF s f q (acc++[st]):=by rw [vsF,if_neg (by simp [h]),h2]
theorem lnL_ge {s:ByteArray}:∀ (f:Nat) (l:List UInt8) (p:Nat) (st st':St) (q:Nat),lnL f l s p st = .inr (st',q)→p≤q
 | 0,_,_,_,_,_,h=>by
  rw [lnL] at h
  injection h with h
  injection h with _ h
  omega
 | f+1,l,p,st,st',q,h=>by
  rw [lnL] at h
  split at h
  ·cases h
  ·split at h
   ·injection h with h;injection h with _ h;omega
   ·split at h
    ·cases h
    ·have:=lnL_ge f _ _ _ _ _ h
     omega
theorem lnL_gt {s:ByteArray} {f:Nat} {l:List UInt8} {p:Nat} {st st':St} {q:Nat} (hk:0<rnO fxB l) (h:lnL (f+1) l s p st = .inr (st',q)):p<q:=by
 rw [lnL] at h
 split at h
 ·cases h
 ·split at h
  ·injection h with h;injection h with _ h;omega
  ·split at h
   ·cases h
   ·have:=lnL_ge f _ _ _ _ _ h
    omega
theorem forF_fix (k:Nat):0<rnO fxB (forF k):=by
 unfold forF
 repeat' split
 all_goals decide
theorem skF_gt {s:ByteArray} {p:Nat}:∀ (f k:Nat) (st:St) (q:Nat),skF s p f k = .inr (st,q)→p<q
 | 0,_,_,_,h=>by rw [skF] at h;cases h
 | f+1,k,st,q,h=>by
  rw [skF] at h
  split at h
  ·split at h
   ·cases h
   ·next h2 =>
    injection h with h
    injection h with _ h
    have:=lnL_gt (forF_fix k) h2
    omega
  ·exact skF_gt f (k+1) st q h
theorem skL_gt {s:ByteArray} {p q:Nat} {st:St} (h:skL s p = .inr (st,q)):p<q:=skF_gt 5 1 st q h
theorem own_kp {lo b c:Nat} {w w':World} {u:Value} {L:List St} (h:OwS lo w u L) (k:Kp2 b c w w') (hb:∀ g,u.ownBlock=some g→g≠b∧g≠c):OwS lo w' u L:=by
 obtain ⟨hl,h0 | ⟨g,cap,cur,rfl,h1,h2,h3⟩⟩:=h
 ·exact ⟨hl,.inl h0⟩
 ·obtain ⟨n1,n2⟩:=hb g rfl
  exact ⟨hl,.inr ⟨g,cap,cur,rfl,h1,(k.block g (Array.getElem?_eq_some_iff.1 h2).1 n1 n2).trans h2,h3⟩⟩
def VsQ (R:Nat ⊕ (List St × Int × Int)) (w:World) (e:Ending) (w':World):Prop :=
 match R with
 | .inr (l,zw,zh)=>∃ u,e = .returned (.tuple #[u,.agg #[.int .i64 zw,.int .i64 zh],.nilIface])∧OwS w.heap.size w' u l∧Below w.heap.size w w'
 | .inl q=>∃ v,e = .returned (.tuple #[.slice none 0 0,.agg #[.int .i64 0,.int .i64 0],v])∧IsW w.heap.size w' v q∧Below w.heap.size w w'
end Go.Proofs.YtapachlhdgehjaaGreatDoor
