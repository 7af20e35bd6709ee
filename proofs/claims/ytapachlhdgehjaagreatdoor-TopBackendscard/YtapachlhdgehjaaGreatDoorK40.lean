/-
  Texts of this claim, one behind the other: what each is about stands ahead of it.
-/
import Derived.Test.YtapachlhdgehjaaGreatDoorK39
import Derived.Test.YtapachlhdgehjaaGreatDoorK36
/- Contracts of package vector's reader: shapes, walked. -/
namespace Go.Proofs.YtapachlhdgehjaaGreatDoor
open Go.RowKit
structure VsW (zb b hb:Nat) (s:ByteArray) (h:St) (R2:Nat ⊕ List St) (w:World) (u:Value) (acc:List St) (p f:Nat) (wr:World):Prop where
 rd:Rd wr b s p
 zr:Bk wr zb #[.int .i64 0,.int .i64 0] 23
 hd:Bk wr hb (#[.int .u8 h.k,.int .i64 h.r.x,.int .i64 h.r.y,.int .i64 h.r.w,.int .i64 h.r.h,.int .u8 h.c.r,.int .u8 h.c.g,.int .u8 h.c.b,.int .u8 h.c.a,.int .u8 h.b.r,.int .u8 h.b.g,.int .u8 h.b.b,.int .u8 h.b.a,.string h.t,.int .i64 h.n]) 55
 ow:OwS (hb+1) wr u acc
 bl:Below w.heap.size w wr
 sz:hb+1≤wr.heap.size
 eq:vsF s f p acc=R2
 fu:s.size<f+p
 le:p≤s.size
 ln:acc.length≤p
theorem cell_strokeV (w:World) (s:St) (t:TypeId) (b:Nat) (h:b=w.heap.size):∀ (j:Nat) (u:Value),(sCel s)[j]? = some u→(w.alloc (.cells (#[.int .u8 s.k,.int .i64 s.r.x,.int .i64 s.r.y,.int .i64 s.r.w,.int .i64 s.r.h,.int .u8 s.c.r,.int .u8 s.c.g,.int .u8 s.c.b,.int .u8 s.c.a,.int .u8 s.b.r,.int .u8 s.b.g,.int .u8 s.b.b,.int .u8 s.b.a,.string s.t,.int .i64 s.n]) t)).cell? ((⟨b,0,none⟩:Addr).add j)=some u:=by
 intro j u hj
 subst h
 have e:(⟨w.heap.size,0,none⟩:Addr).add j=⟨w.heap.size,j,none⟩:=by
  simp [Addr.add]
  intro h
  exact h.symm
 rw [e,(Bk.new w (#[.int .u8 s.k,.int .i64 s.r.x,.int .i64 s.r.y,.int .i64 s.r.w,.int .i64 s.r.h,.int .u8 s.c.r,.int .u8 s.c.g,.int .u8 s.c.b,.int .u8 s.c.a,.int .u8 s.b.r,.int .u8 s.b.g,.int .u8 s.b.b,.int .u8 s.b.a,.string s.t,.int .i64 s.n]) t).cell j,← hj]
 show (sCel s).toArray[j]? = _
 simp
theorem snocV {lo:Nat} {W:World} {v:Value} {L:List St} {x:St} (h:W.ownsRow lo 55 15 v (L.length+1) (flatZ L++sCel x)):OwS lo W v (L++[x]):=by
 unfold OwS
 rw [List.length_append,List.length_singleton,flatZ_app,flatZ_one]
 exact h
def vsZ (R2:Nat ⊕ List St) (h:St):Nat ⊕ (List St × Int × Int) :=
 match R2 with
 | .inl q=>.inl q
 | .inr l=>.inr (l,h.r.w,h.r.h)
theorem vsR_go {s:ByteArray} {h:St} {p:Nat} (e:Sum.inr (h,p)=lnL 22 hedF s 0 zSo):vsR s=vsZ (vsF s (s.size+1) p []) h:=by
 unfold vsR
 rw [← e]
 rfl
theorem begins_lst (b:Nat) (s:ByteArray) (p:Nat) (w:World) (h:Rd w b s p) (hp:p≤s.size) :
  Calls Tryz.prog 68 #[.pointer (some ⟨b,0,none⟩),.string ⟨#[60,47,115,104,97,112,101,115,62,10]⟩] w fun e w'=>e = .returned (.bool (bgB s p lstF))∧Below w.heap.size w w':=by
 have q:=begins_any b s p ⟨#[60,47,115,104,97,112,101,115,62,10]⟩ w h hp
 have e:(⟨#[60,47,115,104,97,112,101,115,62,10]⟩:ByteArray).data.toList=lstF:=by decide
 rw [e] at q
 exact q
theorem own_lo {lo lo2:Nat} {w:World} {u:Value} {l:List St} (h:OwS lo w u l) (hl:lo2≤lo):OwS lo2 w u l:=by
 obtain ⟨hl2,h0 | ⟨g,cap,cur,rfl,h1,h2,h3⟩⟩:=h
 ·exact ⟨hl2,.inl h0⟩
 ·exact ⟨hl2,.inr ⟨g,cap,cur,rfl,Nat.le_trans hl h1,h2,h3⟩⟩
def sLen:Value→Nat
 | .slice _ n _=>n
 | _=>0
theorem own_len {lo:Nat} {w:World} {u:Value} {l:List St} (h:OwS lo w u l):sLen u=l.length:=by
 obtain ⟨hl,h0 | ⟨g,cap,cur,rfl,_⟩⟩:=h
 ·rw [h0.1,h0.2];rfl
 ·rfl
theorem size_siz:(Tryz.prog.info? 23).map (·.size)=some 2:=by kernel_rfl
theorem vsq_some {R:Nat ⊕ (List St × Int × Int)} {w w':World} {e:Ending} {l:List St} {zw zh:Int} {u:Value} (hR:R = .inr (l,zw,zh)) (he:e = .returned (.tuple #[u,.agg #[.int .i64 zw,.int .i64 zh],.nilIface])) (h1:OwS w.heap.size w' u l) (h2:Below w.heap.size w w'):VsQ R w e w':=by
 subst hR
 exact ⟨u,he,h1,h2⟩
theorem vsq_none {R:Nat ⊕ (List St × Int × Int)} {w w':World} {e:Ending} {q:Nat} {v:Value} (hR:R = .inl q) (he:e = .returned (.tuple #[.slice none 0 0,.agg #[.int .i64 0,.int .i64 0],v])) (h1:IsW w.heap.size w' v q) (h2:Below w.heap.size w w'):VsQ R w e w':=by
 subst hR
 exact ⟨v,he,h1,h2⟩
set_option maxRecDepth 10000 in
set_option maxHeartbeats 16000000 in
theorem shapesR_any (s:ByteArray) (w:World) (hs:s.size≤100000) (hE:EnR w.heap.size w) :
  Calls Tryz.prog 36 #[.string s] w fun e w'=>VsQ (vsR s) w e w':=by
 obtain ⟨R,hR⟩:∃ R,R=vsR s:=⟨_,rfl⟩
 rw [← hR]
 obtain ⟨zb,hzb⟩:∃ zb,zb=w.heap.size:=⟨_,rfl⟩
 obtain ⟨b,hb⟩:∃ b,b=w.heap.size+1:=⟨_,rfl⟩
 have HW:Hid (zb=w.heap.size∧b=w.heap.size+1∧EnR w.heap.size w∧R=vsR s):=⟨hzb,hb,hE,hR⟩
 obtain ⟨L,hL⟩:∃ L,L=lnL 22 hedF s 0 zSo:=⟨_,rfl⟩
 have HLi:Hid (∀ W,Rd W b s 0→Below w.heap.size w W→Calls Tryz.prog 67 #[.pointer (some ⟨b,0,none⟩),.string ⟨hedF.toArray⟩] W fun e w'=>LnQ b s L W e w'):=fun W h1 h2=>by
  rw [hL]
  exact lineR_any w.heap.size b s 0 ⟨hedF.toArray⟩ W h1 (Nat.zero_le _) hs (hE.on h2) (by omega) (by decide)
 have HL:=show Hid _ from hL
 have hn1:¬ zb=b:=by omega
 have hn2:¬ b=zb:=by omega
 have H0:Hid (Rd ((w.alloc (.cells #[.int .i64 0,.int .i64 0] 23)).alloc (.cells #[.string s,.int .i64 0] 118)) b s 0∧Bk ((w.alloc (.cells #[.int .i64 0,.int .i64 0] 23)).alloc (.cells #[.string s,.int .i64 0] 118)) zb #[.int .i64 0,.int .i64 0] 23∧Below w.heap.size w ((w.alloc (.cells #[.int .i64 0,.int .i64 0] 23)).alloc (.cells #[.string s,.int .i64 0] 118))):=by
  have b1:Below w.heap.size w (w.alloc (.cells #[.int .i64 0,.int .i64 0] 23)):=(Below.refl _ w).alloc (Nat.le_refl _) _
  have b2:Below (w.alloc (.cells #[.int .i64 0,.int .i64 0] 23)).heap.size (w.alloc (.cells #[.int .i64 0,.int .i64 0] 23)) ((w.alloc (.cells #[.int .i64 0,.int .i64 0] 23)).alloc (.cells #[.string s,.int .i64 0] 118)):=(Below.refl _ _).alloc (Nat.le_refl _) _
  have e:(w.alloc (.cells #[.int .i64 0,.int .i64 0] 23)).heap.size=w.heap.size+1:=by simp
  refine ⟨?_,?_,b1.trans (b2.mono b1.size)⟩
  ·rw [hb,← e];exact Bk.new _ _ _
  ·rw [hzb];exact (Bk.new w _ _).below b2
 clear hR hL hE
 go_enter Tryz.func36,Tryz.ntmps36
 go_wp2_with fail
 rw [← hb,← hzb]
 clear hb hzb
 refine (HLi.out _ H0.out.1 H0.out.2.2).mono ?_
 clear HLi
 intro e w1 hq
 cases L with
 | inl q =>
  obtain ⟨v,rfl,hv,hk⟩:=hq
  obtain ⟨gi,hgi⟩:=isw_iface hv
  have HRR:Hid (R = .inl q):=by rw [HW.out.2.2.2];unfold vsR;rw [← HL.out];rfl
  have HQ:Hid (IsW (zb+2) w1 v q∧Bk w1 zb #[.int .i64 0,.int .i64 0] 23∧Below w.heap.size w w1):=by
   have hw:=HW.out
   have e:((w.alloc (.cells #[.int .i64 0,.int .i64 0] 23)).alloc (.cells #[.string s,.int .i64 0] 118)).heap.size=w.heap.size+2:=by simp
   rw [e] at hv
   exact ⟨hv.weaken (by omega),Kp2.bk hk H0.out.2.1 hn1 hn1,H0.out.2.2.trans (hk.below (by rw [e];omega) (by omega) (by omega))⟩
  clear hv hk H0
  subst hgi
  have HQ6:Hid (IsW (zb+2) (w1.alloc (.cells (#[.int .u8 zSo.k,.int .i64 zSo.r.x,.int .i64 zSo.r.y,.int .i64 zSo.r.w,.int .i64 zSo.r.h,.int .u8 zSo.c.r,.int .u8 zSo.c.g,.int .u8 zSo.c.b,.int .u8 zSo.c.a,.int .u8 zSo.b.r,.int .u8 zSo.b.g,.int .u8 zSo.b.b,.int .u8 zSo.b.a,.string zSo.t,.int .i64 zSo.n]) 55)) (.iface 163 (.pointer (some ⟨gi,0,none⟩))) q∧Bk (w1.alloc (.cells (#[.int .u8 zSo.k,.int .i64 zSo.r.x,.int .i64 zSo.r.y,.int .i64 zSo.r.w,.int .i64 zSo.r.h,.int .u8 zSo.c.r,.int .u8 zSo.c.g,.int .u8 zSo.c.b,.int .u8 zSo.c.a,.int .u8 zSo.b.r,.int .u8 zSo.b.g,.int .u8 zSo.b.b,.int .u8 zSo.b.a,.string zSo.t,.int .i64 zSo.n]) 55)) zb #[.int .i64 0,.int .i64 0] 23∧Below w.heap.size w (w1.alloc (.cells (#[.int .u8 zSo.k,.int .i64 zSo.r.x,.int .i64 zSo.r.y,.int .i64 zSo.r.w,.int .i64 zSo.r.h,.int .u8 zSo.c.r,.int .u8 zSo.c.g,.int .u8 zSo.c.b,.int .u8 zSo.c.a,.int .u8 zSo.b.r,.int .u8 zSo.b.g,.int .u8 zSo.b.b,.int .u8 zSo.b.a,.string zSo.t,.int .i64 zSo.n]) 55))∧zb<(w1.alloc (.cells (#[.int .u8 zSo.k,.int .i64 zSo.r.x,.int .i64 zSo.r.y,.int .i64 zSo.r.w,.int .i64 zSo.r.h,.int .u8 zSo.c.r,.int .u8 zSo.c.g,.int .u8 zSo.c.b,.int .u8 zSo.c.a,.int .u8 zSo.b.r,.int .u8 zSo.b.g,.int .u8 zSo.b.b,.int .u8 zSo.b.a,.string zSo.t,.int .i64 zSo.n]) 55)).heap.size):=by
   have b1:Below w1.heap.size w1 (w1.alloc (.cells (#[.int .u8 zSo.k,.int .i64 zSo.r.x,.int .i64 zSo.r.y,.int .i64 zSo.r.w,.int .i64 zSo.r.h,.int .u8 zSo.c.r,.int .u8 zSo.c.g,.int .u8 zSo.c.b,.int .u8 zSo.c.a,.int .u8 zSo.b.r,.int .u8 zSo.b.g,.int .u8 zSo.b.b,.int .u8 zSo.b.a,.string zSo.t,.int .i64 zSo.n]) 55)):=(Below.refl _ w1).alloc (Nat.le_refl _) _
   exact ⟨HQ.out.1.keep (Kp2.of_below (b:=zb) (c:=zb) b1) (by omega) (by omega),HQ.out.2.1.below b1,HQ.out.2.2.trans (b1.mono HQ.out.2.2.size),(HQ.out.2.1.below b1).lt⟩
  clear HQ
  go_wp2_with (refine wpList_store_row rfl 23 (.tmp 3) (.tmp 21) rfl zb #[.int .i64 0,.int .i64 0] rfl rfl 23 _ HQ6.out.2.1 size_siz rfl (by simp [Value.oneCell']) ?_)
  obtain ⟨W3,hW3⟩:∃ W3,W3=(w1.alloc (.cells (#[.int .u8 zSo.k,.int .i64 zSo.r.x,.int .i64 zSo.r.y,.int .i64 zSo.r.w,.int .i64 zSo.r.h,.int .u8 zSo.c.r,.int .u8 zSo.c.g,.int .u8 zSo.c.b,.int .u8 zSo.c.a,.int .u8 zSo.b.r,.int .u8 zSo.b.g,.int .u8 zSo.b.b,.int .u8 zSo.b.a,.string zSo.t,.int .i64 zSo.n]) 55)).setRow zb #[.int .i64 0,.int .i64 0]:=⟨_,rfl⟩
  rw [← hW3]
  have hB3:Bk W3 zb #[.int .i64 0,.int .i64 0] 23:=by rw [hW3];exact setRow_heap _ _ _ _ _ _ HQ6.out.2.1
  have hld:(loadVar 23 ⟨zb,0,none⟩).run Tryz.prog W3 = .ok (.agg #[.int .i64 0,.int .i64 0]) W3:=run_loadVar_row W3 (zb) 23 23 #[.int .i64 0,.int .i64 0] (0,0) _ hB3 Tryz.underlying23 rfl size_siz
  have hK3:Kp2 (zb) (zb) (w1.alloc (.cells (#[.int .u8 zSo.k,.int .i64 zSo.r.x,.int .i64 zSo.r.y,.int .i64 zSo.r.w,.int .i64 zSo.r.h,.int .u8 zSo.c.r,.int .u8 zSo.c.g,.int .u8 zSo.c.b,.int .u8 zSo.c.a,.int .u8 zSo.b.r,.int .u8 zSo.b.g,.int .u8 zSo.b.b,.int .u8 zSo.b.a,.string zSo.t,.int .i64 zSo.n]) 55)) W3:=by rw [hW3];exact Kp2.row _ _ _ _
  refine bodyPost_ret (v:=.tuple #[.slice none 0 0,.agg #[.int .i64 0,.int .i64 0],.iface 163 (.pointer (some ⟨gi,0,none⟩))]) ?_ rfl (vsq_none HRR.out rfl ((HQ6.out.1.keep hK3 (by omega) (by omega)).weaken (by have:=HW.out;omega)) (HQ6.out.2.2.1.trans (hK3.below HQ6.out.2.2.1.size (by have:=HW.out;omega) (by have:=HW.out;omega))))
  simp [results,Tryz.results36,asAddr,hld]
 | inr L2 =>
  obtain ⟨h,p0⟩:=L2
  obtain ⟨rfl,hr,hp0,hk⟩:=hq
  obtain ⟨qb,hhb⟩:∃ qb,qb=w1.heap.size:=⟨_,rfl⟩
  obtain ⟨R2,hR2⟩:∃ R2,R2=vsF s (s.size+1) p0 []:=⟨_,rfl⟩
  have HRR:Hid (R=vsZ R2 h):=by rw [HW.out.2.2.2,hR2];exact vsR_go HL.out
  have HZ:Hid (qb=w1.heap.size∧w.heap.size+2≤qb):=by
   have e:((w.alloc (.cells #[.int .i64 0,.int .i64 0] 23)).alloc (.cells #[.string s,.int .i64 0] 118)).heap.size=w.heap.size+2:=by simp
   have:=hk.size
   have hw:=HW.out
   exact ⟨hhb,by omega⟩
  have H1:Hid (VsW zb b qb s h R2 w (.slice none 0 0) [] p0 (s.size+1) (w1.alloc (.cells (#[.int .u8 h.k,.int .i64 h.r.x,.int .i64 h.r.y,.int .i64 h.r.w,.int .i64 h.r.h,.int .u8 h.c.r,.int .u8 h.c.g,.int .u8 h.c.b,.int .u8 h.c.a,.int .u8 h.b.r,.int .u8 h.b.g,.int .u8 h.b.b,.int .u8 h.b.a,.string h.t,.int .i64 h.n]) 55))):=by
   have b1:Below w1.heap.size w1 (w1.alloc (.cells (#[.int .u8 h.k,.int .i64 h.r.x,.int .i64 h.r.y,.int .i64 h.r.w,.int .i64 h.r.h,.int .u8 h.c.r,.int .u8 h.c.g,.int .u8 h.c.b,.int .u8 h.c.a,.int .u8 h.b.r,.int .u8 h.b.g,.int .u8 h.b.b,.int .u8 h.b.a,.string h.t,.int .i64 h.n]) 55)):=(Below.refl _ w1).alloc (Nat.le_refl _) _
   have hw:=HW.out
   have e:((w.alloc (.cells #[.int .i64 0,.int .i64 0] 23)).alloc (.cells #[.string s,.int .i64 0] 118)).heap.size=w.heap.size+2:=by simp
   have bb:=H0.out.2.2.trans (hk.below (B:=w.heap.size) (by rw [e];omega) (by omega) (by omega))
   exact ⟨hr.below b1,(Kp2.bk hk H0.out.2.1 hn1 hn1).below b1,by rw [hhb];exact Bk.new _ _ _,OwS.nil _ _,bb.trans (b1.mono bb.size),by rw [hhb];simp,hR2.symm,by omega,hp0,Nat.zero_le _⟩
  clear hr hk H0 hR2 hp0 HL
  go_wp2_with fail
  rw [← hhb]
  clear hhb
  obtain ⟨i0,hi,hz0,hz1,hz2⟩:=info_parts info_strokeZ
  go_loopw [8] (fun kv wr=>∃ (u:Value) (p f:Nat) (acc:List St),u=kv∧Hid (VsW zb b qb s h R2 w u acc p f wr)) (fun kv _=>s.size - sLen kv)
  case atStart=>exact ⟨_,p0,s.size+1,[],rfl,H1⟩
  case round =>
   obtain ⟨kv,p,f,acc,rfl,HR⟩:=hrel
   clear H1
   have hln:sLen kv=acc.length:=own_len HR.out.ow
   have HBg:Hid (Calls Tryz.prog 68 #[.pointer (some ⟨b,0,none⟩),.string ⟨#[60,47,115,104,97,112,101,115,62,10]⟩] wr fun e w'=>e = .returned (.bool (bgB s p lstF))∧Below wr.heap.size wr w'):=begins_lst b s p wr HR.out.rd HR.out.le
   obtain ⟨f,rfl⟩:∃ f',f=f'+1:=by
    have:=HR.out.fu
    have:=HR.out.le
    cases f with
    | zero=>omega
    | succ f=>exact ⟨f,rfl⟩
   cases hbg:bgB s p lstF with
   | true =>
    rw [hbg] at HBg
    have HRQ:Hid (R2=if p+10<s.size then .inl (p+10) else .inr acc):=by rw [← HR.out.eq];exact vsF_last hbg
    have hp10:p+10≤s.size:=by
     rcases bgB_len hbg with h1 | h1
     ·exact h1
     ·exact absurd h1 (by decide)
    have HN:Hid (∀ W,Below wr.heap.size wr W→Rd W b s p∧Bk W zb #[.int .i64 0,.int .i64 0] 23∧Bk W qb (#[.int .u8 h.k,.int .i64 h.r.x,.int .i64 h.r.y,.int .i64 h.r.w,.int .i64 h.r.h,.int .u8 h.c.r,.int .u8 h.c.g,.int .u8 h.c.b,.int .u8 h.c.a,.int .u8 h.b.r,.int .u8 h.b.g,.int .u8 h.b.b,.int .u8 h.b.a,.string h.t,.int .i64 h.n]) 55∧OwS (qb+1) W kv acc∧Below w.heap.size w W∧qb+1≤W.heap.size):=fun W hb=>⟨HR.out.rd.below hb,HR.out.zr.below hb,HR.out.hd.below hb,row_below HR.out.ow hb,HR.out.bl.trans (hb.mono HR.out.bl.size),Nat.le_trans HR.out.sz hb.size⟩
    clear hbg HR
    go_wp2_with fail
    refine HBg.out.mono ?_
    rintro e w2 ⟨rfl,hb2⟩
    have HN2:=show Hid _ from HN.out _ hb2
    clear hb2 HN HBg hi hz0 hz1 hz2
    have HN3:Hid (∀ W,W=w2.setCell ⟨b,1,none⟩ (.int .i64 ((p:Int)+10))→Rd W b s (p+10)∧Bk W zb #[.int .i64 0,.int .i64 0] 23∧Bk W qb (#[.int .u8 h.k,.int .i64 h.r.x,.int .i64 h.r.y,.int .i64 h.r.w,.int .i64 h.r.h,.int .u8 h.c.r,.int .u8 h.c.g,.int .u8 h.c.b,.int .u8 h.c.a,.int .u8 h.b.r,.int .u8 h.b.g,.int .u8 h.b.b,.int .u8 h.b.a,.string h.t,.int .i64 h.n]) 55∧OwS (qb+1) W kv acc∧Below w.heap.size w W∧qb+1≤W.heap.size):=fun W hW=>by
     have k1:Kp2 b b w2 W:=by rw [hW];exact Kp2.put _ _ _ _ _
     have r1:Rd W b s (p+10):=by
      have:=Rd.put (q:=p+10) HN2.out.1
      rw [show ((p+10:Nat):Int)=(p:Int)+10 by omega] at this
      rw [hW];exact this
     have hw:=HW.out
     have hz:=HZ.out
     have h2:=HN2.out.2.2.2.2.2
     have h3:=HN2.out.2.2.2.2.1.size
     exact ⟨r1,Kp2.bk k1 HN2.out.2.1 hn1 hn1,Kp2.bk k1 HN2.out.2.2.1 (by omega) (by omega),own_kp HN2.out.2.2.2.1 k1 (fun g hg=>⟨fun e=>by have:=(row_lt HN2.out.2.2.2.1 g hg).1;omega,fun e=>by have:=(row_lt HN2.out.2.2.2.1 g hg).1;omega⟩),HN2.out.2.2.2.2.1.trans (k1.below h3 (by omega) (by omega)),Nat.le_trans h2 k1.size⟩
    have i1:(0:Int)≤p:=by omega
    have i2:(p:Int)+10≤100000:=by omega
    obtain ⟨c0,c1⟩:=Bk.at2 HN2.out.1
    have f1:=Bk.frozen HN2.out.1 1
    by_cases hd:p+10<s.size
    ·have hd1:(p:Int)+10<s.size:=by omega
     have HRF:Hid (R = .inl (p+10)):=by rw [HRR.out,HRQ.out,if_pos hd];rfl
     clear HRQ
     go_wp2_with fail
     obtain ⟨W3,hW3⟩:∃ W3,W3=w2.setCell ⟨b,1,none⟩ (.int .i64 ((p:Int)+10)):=⟨_,rfl⟩
     rw [← hW3]
     have HN4:=show Hid _ from HN3.out _ hW3
     clear HN3 HN2 c0 c1 f1 hW3
     refine (refuse_any b s (p+10) 0 ⟨#[116,104,101,32,116,101,120,116,39,115,32,101,110,100]⟩ _ HN4.out.1 (by omega) (by decide)).mono ?_
     rintro e w5 ⟨v5,rfl,hv5,hb5⟩
     have HQ6:Hid (IsW (zb+2) w5 v5 (p+10)∧Bk w5 zb #[.int .i64 0,.int .i64 0] 23∧Below w.heap.size w w5):=by
      have hw:=HW.out
      have hz:=HZ.out
      have h2:=HN4.out.2.2.2.2.2
      rw [Nat.add_zero] at hv5
      exact ⟨hv5.weaken (by omega),HN4.out.2.1.below hb5,HN4.out.2.2.2.2.1.trans (hb5.mono HN4.out.2.2.2.2.1.size)⟩
     clear hv5 hb5 HN4
     go_wp2_with (refine wpList_store_row rfl 23 (.tmp 3) (.tmp 53) rfl zb #[.int .i64 0,.int .i64 0] rfl rfl 23 _ HQ6.out.2.1 size_siz rfl (by simp [Value.oneCell']) ?_)
     obtain ⟨W3,hW3⟩:∃ W3,W3=w5.setRow zb #[.int .i64 0,.int .i64 0]:=⟨_,rfl⟩
     rw [← hW3]
     have hB3:Bk W3 zb #[.int .i64 0,.int .i64 0] 23:=by rw [hW3];exact setRow_heap _ _ _ _ _ _ HQ6.out.2.1
     have hld:(loadVar 23 ⟨zb,0,none⟩).run Tryz.prog W3 = .ok (.agg #[.int .i64 0,.int .i64 0]) W3:=run_loadVar_row W3 (zb) 23 23 #[.int .i64 0,.int .i64 0] (0,0) _ hB3 Tryz.underlying23 rfl size_siz
     have hK3:Kp2 (zb) (zb) w5 W3:=by rw [hW3];exact Kp2.row _ _ _ _
     refine bodyPost_ret (v:=.tuple #[.slice none 0 0,.agg #[.int .i64 0,.int .i64 0],v5]) ?_ rfl (vsq_none HRF.out rfl ((HQ6.out.1.keep hK3 (by omega) (by omega)).weaken (by have:=HW.out;omega)) (HQ6.out.2.2.trans (hK3.below HQ6.out.2.2.size (by have:=HW.out;omega) (by have:=HW.out;omega))))
     simp [results,Tryz.results36,asAddr,hld]
    ·have hd1:decide ((p:Int)+10<(s.size:Int))=false:=decide_eq_false (by omega)
     have HRF:Hid (R = .inr (acc,h.r.w,h.r.h)):=by rw [HRR.out,HRQ.out,if_neg hd];rfl
     clear HRQ hd hp10 hln
     have HN4:=show Hid _ from HN3.out _ rfl
     clear HN3
     go_wp2_with (refine R4.wp_region_lit 5 0 2 (fun _ _=>undef) (fun _=>.cells #[] 0) [] (by kernel_rfl) (by kernel_rfl) rfl (fun k hk=>absurd hk (by omega)) rfl ?_)
     generalize hWW:w2.setCell ⟨b,1,none⟩ (.int .i64 ((p:Int)+10))=WW at *
     apply Exists.intro
     refine ⟨fun bs ne=>?_,fun i h1 h2=>absurd h2 (by omega),?_⟩
     ·have q:=fun tt:Gb WW bs=>bk15 (HN4.out.2.2.1.below tt.below)
      have x3:=fun tt:Gb WW bs=>(q tt).2.2.2.1
      have x4:=fun tt:Gb WW bs=>(q tt).2.2.2.2.1
      simp only [Nat.zero_add] at x3 x4
      clear q
      simp only [List.take_succ_cons,List.take_zero]
      repeat (go_big_quiet_step (fail))
      exact wpQuiet_nil rfl
     ·intro bl wx hbl _ _
      have HX3:Hid (Below WW.heap.size WW wx):=hbl
      simp only [R4.layL]
      clear hbl
      have HF:Hid (∀ W,W=(wx.setCell ⟨zb,0,none⟩ (.int .i64 h.r.w)).setCell ⟨zb,1,none⟩ (.int .i64 h.r.h)→Bk W zb #[.int .i64 h.r.w,.int .i64 h.r.h] 23∧OwS w.heap.size W kv acc∧Below w.heap.size w W):=fun W hW=>by
       have k1:Kp2 zb zb wx (wx.setCell ⟨zb,0,none⟩ (.int .i64 h.r.w)):=Kp2.put _ _ _ _ _
       have k2:Kp2 zb zb (wx.setCell ⟨zb,0,none⟩ (.int .i64 h.r.w)) W:=by rw [hW];exact Kp2.put _ _ _ _ _
       have k3:=k1.trans k2
       have hw:=HW.out
       have hz:=HZ.out
       have o1:=row_below HN4.out.2.2.2.1 HX3.out
       have bx:=HN4.out.2.2.2.2.1.trans (HX3.out.mono HN4.out.2.2.2.2.1.size)
       have z1:=Bk.put (HN4.out.2.1.below HX3.out) 0 (.int .i64 h.r.w)
       have z2:=Bk.put z1 1 (.int .i64 h.r.h)
       refine ⟨by rw [hW];exact z2,?_,bx.trans (k3.below bx.size (by omega) (by omega))⟩
       have o2:OwS (qb+1) W kv acc:=own_kp o1 k3 (fun g hg=>⟨fun e=>by have:=(row_lt o1 g hg).1;omega,fun e=>by have:=(row_lt o1 g hg).1;omega⟩)
       exact own_lo o2 (by omega)
      have z0:=Bk.cell (HN4.out.2.1.below HX3.out) 0
      have z1:=Bk.cell (HN4.out.2.1.below HX3.out) 1
      simp only [List.getElem?_toArray,List.getElem?_cons_zero,List.getElem?_cons_succ] at z0 z1
      have g0:=Bk.frozen (HN4.out.2.1.below HX3.out) 0
      have g1:=Bk.frozen (HN4.out.2.1.below HX3.out) 1
      clear HX3 HN4
      refine wpAny_one 5 (by kernel_rfl) rfl ?_
      intro K hK
      go_simp
      refine hK _ _ ?_
      clear hK K
      refine wpAny_one 6 (by kernel_rfl) rfl ?_
      intro K hK
      go_simp
      refine hK _ _ ?_
      clear hK K
      refine wpAny_done (by kernel_rfl) ?_ _
      go_wp2_with fail
      obtain ⟨W4,hW4⟩:∃ W4,W4=(wx.setCell ⟨zb,0,none⟩ (.int .i64 h.r.w)).setCell ⟨zb,1,none⟩ (.int .i64 h.r.h):=⟨_,rfl⟩
      rw [← hW4]
      have HF4:=show Hid _ from HF.out _ hW4
      have hld:(loadVar 23 ⟨zb,0,none⟩).run Tryz.prog W4 = .ok (.agg #[.int .i64 h.r.w,.int .i64 h.r.h]) W4:=run_loadVar_row W4 zb 23 23 #[.int .i64 h.r.w,.int .i64 h.r.h] (0,0) _ HF4.out.1 Tryz.underlying23 rfl size_siz
      refine bodyPost_ret (v:=.tuple #[kv,.agg #[.int .i64 h.r.w,.int .i64 h.r.h],.nilIface]) ?_ rfl (vsq_some HRF.out rfl HF4.out.2.1 HF4.out.2.2)
      simp [results,Tryz.results36,asAddr,hld]
   | false =>
    rw [hbg] at HBg
    have HN:Hid (∀ W,Below wr.heap.size wr W→Rd W b s p∧Bk W zb #[.int .i64 0,.int .i64 0] 23∧Bk W qb (#[.int .u8 h.k,.int .i64 h.r.x,.int .i64 h.r.y,.int .i64 h.r.w,.int .i64 h.r.h,.int .u8 h.c.r,.int .u8 h.c.g,.int .u8 h.c.b,.int .u8 h.c.a,.int .u8 h.b.r,.int .u8 h.b.g,.int .u8 h.b.b,.int .u8 h.b.a,.string h.t,.int .i64 h.n]) 55∧OwS (qb+1) W kv acc∧Below w.heap.size w W∧qb+1≤W.heap.size):=fun W qb=>⟨HR.out.rd.below qb,HR.out.zr.below qb,HR.out.hd.below qb,row_below HR.out.ow qb,HR.out.bl.trans (qb.mono HR.out.bl.size),Nat.le_trans HR.out.sz qb.size⟩
    have HF:Hid (s.size<f+1+p∧p≤s.size∧acc.length≤p):=⟨HR.out.fu,HR.out.le,HR.out.ln⟩
    obtain ⟨S,hS⟩:∃ S,S=skL s p:=⟨_,rfl⟩
    have HSk:Hid (∀ W,Rd W b s p→Below w.heap.size w W→Calls Tryz.prog 69 #[.pointer (some ⟨b,0,none⟩)] W fun e w'=>LnQ b s S W e w'):=fun W h1 h2=>by rw [hS];exact strokeR_any w.heap.size b s p W h1 HF.out.2.1 hs (HW.out.2.2.1.on h2) (by have:=HW.out;omega)
    have HE2:Hid (∀ q,S = .inl q→R2 = .inl q):=fun q e=>by rw [← HR.out.eq];exact vsF_bad hbg (hS.symm.trans e)
    have HE3:Hid (∀ st q,S = .inr (st,q)→vsF s f q (acc++[st])=R2∧p<q):=fun st q e=>⟨by rw [← HR.out.eq];exact (vsF_go hbg (hS.symm.trans e)).symm,skL_gt (hS.symm.trans e)⟩
    clear hbg HR hS
    go_wp2_with fail
    refine HBg.out.mono ?_
    rintro e w2 ⟨rfl,hb2⟩
    have HN2:=show Hid _ from HN.out _ hb2
    clear hb2 HN HBg
    go_wp2_with fail
    refine (HSk.out _ HN2.out.1 HN2.out.2.2.2.2.1).mono ?_
    clear HSk
    intro e w3 hq
    cases S with
    | inl q =>
     obtain ⟨v,rfl,hv,hk⟩:=hq
     obtain ⟨gi,hgi⟩:=isw_iface hv
     have HRQ:Hid (R = .inl q):=by rw [HRR.out,HE2.out q rfl];rfl
     have HQ6:Hid (IsW (zb+2) (w3.alloc (.cells (#[.int .u8 zSo.k,.int .i64 zSo.r.x,.int .i64 zSo.r.y,.int .i64 zSo.r.w,.int .i64 zSo.r.h,.int .u8 zSo.c.r,.int .u8 zSo.c.g,.int .u8 zSo.c.b,.int .u8 zSo.c.a,.int .u8 zSo.b.r,.int .u8 zSo.b.g,.int .u8 zSo.b.b,.int .u8 zSo.b.a,.string zSo.t,.int .i64 zSo.n]) 55)) v q∧Bk (w3.alloc (.cells (#[.int .u8 zSo.k,.int .i64 zSo.r.x,.int .i64 zSo.r.y,.int .i64 zSo.r.w,.int .i64 zSo.r.h,.int .u8 zSo.c.r,.int .u8 zSo.c.g,.int .u8 zSo.c.b,.int .u8 zSo.c.a,.int .u8 zSo.b.r,.int .u8 zSo.b.g,.int .u8 zSo.b.b,.int .u8 zSo.b.a,.string zSo.t,.int .i64 zSo.n]) 55)) zb #[.int .i64 0,.int .i64 0] 23∧Below w.heap.size w (w3.alloc (.cells (#[.int .u8 zSo.k,.int .i64 zSo.r.x,.int .i64 zSo.r.y,.int .i64 zSo.r.w,.int .i64 zSo.r.h,.int .u8 zSo.c.r,.int .u8 zSo.c.g,.int .u8 zSo.c.b,.int .u8 zSo.c.a,.int .u8 zSo.b.r,.int .u8 zSo.b.g,.int .u8 zSo.b.b,.int .u8 zSo.b.a,.string zSo.t,.int .i64 zSo.n]) 55))):=by
      have b1:Below w3.heap.size w3 (w3.alloc (.cells (#[.int .u8 zSo.k,.int .i64 zSo.r.x,.int .i64 zSo.r.y,.int .i64 zSo.r.w,.int .i64 zSo.r.h,.int .u8 zSo.c.r,.int .u8 zSo.c.g,.int .u8 zSo.c.b,.int .u8 zSo.c.a,.int .u8 zSo.b.r,.int .u8 zSo.b.g,.int .u8 zSo.b.b,.int .u8 zSo.b.a,.string zSo.t,.int .i64 zSo.n]) 55)):=(Below.refl _ w3).alloc (Nat.le_refl _) _
      have hw:=HW.out
      have hz:=HZ.out
      have h2:=HN2.out.2.2.2.2.2
      have bb:=HN2.out.2.2.2.2.1.trans (hk.below (B:=w.heap.size) (by omega) (by omega) (by omega))
      exact ⟨(hv.weaken (by omega)).keep (Kp2.of_below (b:=zb) (c:=zb) b1) (by omega) (by omega),(Kp2.bk hk HN2.out.2.1 hn1 hn1).below b1,bb.trans (b1.mono bb.size)⟩
     clear hv hk HN2 HE2 HE3
     subst hgi
     go_wp2_with (refine wpList_store_row rfl 23 (.tmp 3) (.tmp 33) rfl zb #[.int .i64 0,.int .i64 0] rfl rfl 23 _ HQ6.out.2.1 size_siz rfl (by simp [Value.oneCell']) ?_)
     obtain ⟨W3,hW3⟩:∃ W3,W3=(w3.alloc (.cells (#[.int .u8 zSo.k,.int .i64 zSo.r.x,.int .i64 zSo.r.y,.int .i64 zSo.r.w,.int .i64 zSo.r.h,.int .u8 zSo.c.r,.int .u8 zSo.c.g,.int .u8 zSo.c.b,.int .u8 zSo.c.a,.int .u8 zSo.b.r,.int .u8 zSo.b.g,.int .u8 zSo.b.b,.int .u8 zSo.b.a,.string zSo.t,.int .i64 zSo.n]) 55)).setRow zb #[.int .i64 0,.int .i64 0]:=⟨_,rfl⟩
     rw [← hW3]
     have hB3:Bk W3 zb #[.int .i64 0,.int .i64 0] 23:=by rw [hW3];exact setRow_heap _ _ _ _ _ _ HQ6.out.2.1
     have hld:(loadVar 23 ⟨zb,0,none⟩).run Tryz.prog W3 = .ok (.agg #[.int .i64 0,.int .i64 0]) W3:=run_loadVar_row W3 (zb) 23 23 #[.int .i64 0,.int .i64 0] (0,0) _ hB3 Tryz.underlying23 rfl size_siz
     have hK3:Kp2 (zb) (zb) (w3.alloc (.cells (#[.int .u8 zSo.k,.int .i64 zSo.r.x,.int .i64 zSo.r.y,.int .i64 zSo.r.w,.int .i64 zSo.r.h,.int .u8 zSo.c.r,.int .u8 zSo.c.g,.int .u8 zSo.c.b,.int .u8 zSo.c.a,.int .u8 zSo.b.r,.int .u8 zSo.b.g,.int .u8 zSo.b.b,.int .u8 zSo.b.a,.string zSo.t,.int .i64 zSo.n]) 55)) W3:=by rw [hW3];exact Kp2.row _ _ _ _
     refine bodyPost_ret (v:=.tuple #[.slice none 0 0,.agg #[.int .i64 0,.int .i64 0],.iface 163 (.pointer (some ⟨gi,0,none⟩))]) ?_ rfl (vsq_none HRQ.out rfl ((HQ6.out.1.keep hK3 (by omega) (by omega)).weaken (by have:=HW.out;omega)) (HQ6.out.2.2.trans (hK3.below HQ6.out.2.2.size (by have:=HW.out;omega) (by have:=HW.out;omega))))
     simp [results,Tryz.results36,asAddr,hld]
    | inr S2 =>
     obtain ⟨st,q⟩:=S2
     obtain ⟨rfl,hr,hq,hk⟩:=hq
     have HN3:Hid (Rd w3 b s q∧Bk w3 zb #[.int .i64 0,.int .i64 0] 23∧Bk w3 qb (#[.int .u8 h.k,.int .i64 h.r.x,.int .i64 h.r.y,.int .i64 h.r.w,.int .i64 h.r.h,.int .u8 h.c.r,.int .u8 h.c.g,.int .u8 h.c.b,.int .u8 h.c.a,.int .u8 h.b.r,.int .u8 h.b.g,.int .u8 h.b.b,.int .u8 h.b.a,.string h.t,.int .i64 h.n]) 55∧OwS (qb+1) w3 kv acc∧Below w.heap.size w w3∧qb+1≤w3.heap.size):=by
      have hw:=HW.out
      have hz:=HZ.out
      have h2:=HN2.out.2.2.2.2.2
      exact ⟨hr,Kp2.bk hk HN2.out.2.1 hn1 hn1,Kp2.bk hk HN2.out.2.2.1 (by omega) (by omega),own_kp HN2.out.2.2.2.1 hk (fun g hg=>⟨fun e=>by have:=(row_lt HN2.out.2.2.2.1 g hg).1;omega,fun e=>by have:=(row_lt HN2.out.2.2.2.1 g hg).1;omega⟩),HN2.out.2.2.2.2.1.trans (hk.below (B:=w.heap.size) (by omega) (by omega) (by omega)),Nat.le_trans h2 hk.size⟩
     have HG:Hid (vsF s f q (acc++[st])=R2∧p<q∧q≤s.size):=⟨(HE3.out st q rfl).1,(HE3.out st q rfl).2,hq⟩
     clear hr hk HN2 HE2 HE3 hq
     have hc3:Hid (acc.length+1≤maxLen):=by have:=HF.out;unfold Hid maxLen;omega
     have hc4:Hid ((acc.length+1) * 72≤140737488355328):=by have:=HF.out;unfold Hid;omega
     have HA:Hid (∀ o o2,((w3.alloc o).alloc o2).ownsRow (qb+1) 55 15 kv acc.length (flatZ acc)∧Below w3.heap.size w3 ((w3.alloc o).alloc o2)∧qb+1≤((w3.alloc o).alloc o2).heap.size):=fun o o2=>by
      have b1:Below w3.heap.size w3 (w3.alloc o):=(Below.refl _ w3).alloc (Nat.le_refl _) _
      have b2:Below (w3.alloc o).heap.size (w3.alloc o) ((w3.alloc o).alloc o2):=(Below.refl _ _).alloc (Nat.le_refl _) _
      have b3:=b1.trans (b2.mono b1.size)
      exact ⟨row_below HN3.out.2.2.2.1 b3,b3,Nat.le_trans HN3.out.2.2.2.2.2 b3.size⟩
     go_wp2_with (at_builtin;refine wpList_append_own _ rfl _ _ 27 rfl (qb+1) 55 i0 (.agg #[.int .u8 0,.int .i64 0,.int .i64 0,.int .i64 0,.int .i64 0,.int .u8 0,.int .u8 0,.int .u8 0,.int .u8 0,.int .u8 0,.int .u8 0,.int .u8 0,.int .u8 0,.string ByteArray.empty,.int .i64 0]) 15 72 Tryz.underlying27 hi hz0 hz1 hz2 rfl (by decide) kv acc.length (flatZ acc) rfl (HA.out _ _).1 _ 1 1 (sCel st) rfl rfl (cell_strokeV _ st _ _ (by simp)) (oneZ st) hc3.out hc4.out (HA.out _ _).2.2 ?_)
     intro v4 w4 hown hgrow hnil
     have HF4:Hid (VsW zb b qb s h R2 w v4 (acc++[st]) q f w4):=by
      have h1:OwS (qb+1) w4 v4 (acc++[st]):=snocV hown
      have hA:=HA.out (.cells (#[.int .u8 st.k,.int .i64 st.r.x,.int .i64 st.r.y,.int .i64 st.r.w,.int .i64 st.r.h,.int .u8 st.c.r,.int .u8 st.c.g,.int .u8 st.c.b,.int .u8 st.c.a,.int .u8 st.b.r,.int .u8 st.b.g,.int .u8 st.b.b,.int .u8 st.b.a,.string st.t,.int .i64 st.n]) 55) (.cells (#[.int .u8 st.k,.int .i64 st.r.x,.int .i64 st.r.y,.int .i64 st.r.w,.int .i64 st.r.h,.int .u8 st.c.r,.int .u8 st.c.g,.int .u8 st.c.b,.int .u8 st.c.a,.int .u8 st.b.r,.int .u8 st.b.g,.int .u8 st.b.b,.int .u8 st.b.a,.string st.t,.int .i64 st.n]) 55)
      have b4:Below (qb+1) w3 w4:=(hA.2.1.mono HN3.out.2.2.2.2.2).grown hgrow hA.2.2 (fun g hg=>(row_lt hA.1 g hg).1)
      have hw:=HW.out
      have hz:=HZ.out
      have hf:=HF.out
      have hg:=HG.out
      exact ⟨(b4.block b (by omega)).trans HN3.out.1,(b4.block zb (by omega)).trans HN3.out.2.1,(b4.block qb (by omega)).trans HN3.out.2.2.1,h1,HN3.out.2.2.2.2.1.trans (b4.mono (by omega)),Nat.le_trans HN3.out.2.2.2.2.2 b4.size,hg.1,by omega,hg.2.2,by simp;omega⟩
     clear hown hgrow hnil hc3 hc4 HA HN3 hi hz0 hz1 hz2
     have hm1:sLen v4=acc.length+1:=by have:=own_len HF4.out.ow;rw [this];simp
     have hm2:acc.length+1≤s.size:=by have:=HF.out;have:=HG.out;omega
     clear HF HG
     go_wp2
     go_roundw
     case rel=>exact ⟨_,q,f,acc++[st],rfl,HF4⟩
     case measure=>simp only [hm1,hln];omega
end Go.Proofs.YtapachlhdgehjaaGreatDoor

/- Escaped texts there and back, in plain words. -/
namespace Go.Proofs.YtapachlhdgehjaaGreatDoor
open Go.RowKit
theorem dl_len (s:ByteArray):s.data.toList.length=s.size:=by simp
theorem byA_cons {s:ByteArray} {p:Nat} {c:UInt8} {t:List UInt8} (h:rsL s p=c :: t):p<s.size∧byA s p=c.toNat∧rsL s (p+1)=t:=by
 unfold rsL at h ⊢
 have hp:p<s.size:=by
  rcases Nat.lt_or_ge p s.size with h1 | h1
  ·exact h1
  ·rw [List.drop_eq_nil_iff.2 (by rw [dl_len];exact h1)] at h
   cases h
 refine ⟨hp,?_,?_⟩
 ·rw [byA_at hp]
  have h2:s.data.toList[p]? = some c:=by
   have:=congrArg (fun l=>l[0]?) h
   simpa using this
  have hp2:p<s.data.toList.length:=by rw [dl_len];exact hp
  rw [List.getElem?_eq_getElem hp2] at h2
  injection h2 with h2
  rw [← h2]
  rfl
 ·rw [← List.drop_drop,h]
  rfl
theorem rsL_at {s:ByteArray} {p:Nat} (h:p<s.size):rsL s p=UInt8.ofNat (byA s p) :: rsL s (p+1):=by
 rcases e:rsL s p with _ | ⟨c,t⟩
 ·unfold rsL at e
  rw [List.drop_eq_nil_iff] at e
  have:=dl_len s
  omega
 ·obtain ⟨_,h2,h3⟩:=byA_cons e
  rw [h2,h3]
  congr 1
  simp
theorem sx_fin:∀ k:Fin 16,sxI (bt k.val).toNat=(k.val:Int):=by decide +kernel
theorem sx_bt {k:Nat} (h:k<16):sxI (bt k).toNat=(k:Int):=sx_fin ⟨k,h⟩
theorem bt_fin:∀ c:Fin 256,0≤sxI c.val→bt (sxI c.val).toNat=UInt8.ofNat c.val:=by decide +kernel
theorem bt_sx {c:Nat} (h:c<256) (h0:0≤sxI c):bt (sxI c).toNat=UInt8.ofNat c:=bt_fin ⟨c,h⟩ h0
theorem fsP_plain {s:ByteArray} {p:Nat} (hp:p<s.size) (h:stD (byA s p)=true):fsP s p=(byA s p,1):=by
 unfold fsP
 rw [if_neg (by omega),if_pos h]
theorem fsP_mark {s:ByteArray} {p b:Nat} (hb:b<256) (hp:p+4≤s.size) (h0:byA s p=38) (h1:byA s (p+1)=(bt (b / 16)).toNat) (h2:byA s (p+2)=(bt (b % 16)).toNat) (h3:byA s (p+3)=59) (h:stD b=false):fsP s p=(b,4):=by
 have e1:sxI (byA s (p+1))=((b / 16:Nat):Int):=by rw [h1,sx_bt (by omega)]
 have e2:sxI (byA s (p+2))=((b % 16:Nat):Int):=by rw [h2,sx_bt (by omega)]
 have eb:16 * (sxI (byA s (p+1))).toNat+(sxI (byA s (p+2))).toNat=b:=by rw [e1,e2];omega
 unfold fsP
 rw [eb,if_neg (by omega),if_neg (by rw [h0];decide),if_neg (by rw [h0,h3,e1,e2];omega),if_neg (by rw [h];decide)]
theorem escB_plain {b:UInt8} (h:stD b.toNat=true):escB b=[b]:=by unfold escB;rw [if_pos h]
theorem escB_mark {b:UInt8} (h:stD b.toNat=false):escB b=[38,bt (b.toNat / 16),bt (b.toNat % 16),59]:=by unfold escB;rw [if_neg (by rw [h];decide)]
theorem vpF_esc (s:ByteArray):∀ (l:List UInt8) (f p:Nat) (acc:List UInt8),rsL s p=escL l→s.size<f+p→vpF s f p acc=(acc++l,0,0)
 | [],f,p,acc,h,_=>by
  rw [vpF_end,List.append_nil]
  have:rsL s p=[]:=h
  unfold rsL at this
  rw [List.drop_eq_nil_iff] at this
  have e:=dl_len s
  omega
 | b :: l,0,p,acc,h,hf=>by
  exfalso
  rw [escL_cons] at h
  rcases e:escB b with _ | ⟨c,t⟩
  ·unfold escB at e
   split at e <;> cases e
  ·rw [e] at h
   have:=(byA_cons h).1
   omega
 | b :: l,f+1,p,acc,h,hf=>by
  rw [escL_cons] at h
  cases hs:stD b.toNat with
  | true =>
   rw [escB_plain hs] at h
   obtain ⟨hp,h1,h2⟩:=byA_cons h
   have e:=fsP_plain hp (by rw [h1];exact hs)
   rw [(vpF_step hp).2 (by rw [e];exact Nat.one_ne_zero),e]
   show vpF s f (p+1) (acc++[UInt8.ofNat (byA s p)])=_
   rw [h1,vpF_esc s l f (p+1) _ h2 (by omega)]
   simp
  | false =>
   rw [escB_mark hs] at h
   obtain ⟨hp,h1,h2⟩:=byA_cons h
   obtain ⟨hp2,h3,h4⟩:=byA_cons h2
   obtain ⟨hp3,h5,h6⟩:=byA_cons h4
   obtain ⟨hp4,h7,h8⟩:=byA_cons h6
   have e:=fsP_mark (b:=b.toNat) b.toNat_lt (by omega) h1 h3 h5 h7 hs
   rw [(vpF_step hp).2 (by rw [e];show (4:Nat)≠0;decide),e]
   show vpF s f (p+4) (acc++[UInt8.ofNat b.toNat])=_
   rw [vpF_esc s l f (p+4) _ h8 (by omega)]
   simp
theorem vpA_esc (l:List UInt8):vpA ⟨(escL l).toArray⟩=(l,0,0):=by
 unfold vpA
 rw [vpF_esc _ l _ 0 [] (by unfold rsL;simp) (by omega)]
 rfl
theorem fsP_back {s:ByteArray} {p:Nat} (h:(fsP s p).2≠0):rsL s p=escB (UInt8.ofNat (fsP s p).1)++rsL s (p+(fsP s p).2):=by
 by_cases hp:s.size≤p
 ·exact absurd (by unfold fsP;rw [if_pos hp]) h
 have hp:p<s.size:=by omega
 have b0:=byA_lt s p
 have nat:∀ n:Nat,n<256→(UInt8.ofNat n).toNat=n:=fun n hn=>by rw [UInt8.toNat_ofNat'];omega
 by_cases hs:stD (byA s p)=true
 ·rw [fsP_plain hp hs,escB_plain (by rw [nat _ b0];exact hs),rsL_at hp]
  rfl
 ·by_cases hc:s.size<p+4∨byA s p≠38∨byA s (p+3)≠59∨sxI (byA s (p+1))<0∨sxI (byA s (p+2))<0
  ·exact absurd (by unfold fsP;rw [if_neg (by omega),if_neg hs,if_pos hc]) h
  have c1:=sxI_bd (byA_lt s (p+1))
  have c2:=sxI_bd (byA_lt s (p+2))
  obtain ⟨hi,ehi⟩:∃ hi:Nat,sxI (byA s (p+1))=hi:=⟨(sxI (byA s (p+1))).toNat,by omega⟩
  obtain ⟨lo,elo⟩:∃ lo:Nat,sxI (byA s (p+2))=lo:=⟨(sxI (byA s (p+2))).toNat,by omega⟩
  have t1:=bt_sx (byA_lt s (p+1)) (by omega)
  have t2:=bt_sx (byA_lt s (p+2)) (by omega)
  rw [ehi] at t1 c1
  rw [elo] at t2 c2
  by_cases hd:stD (16 * hi+lo)=true
  ·exact absurd (by unfold fsP;rw [if_neg (by omega),if_neg hs,if_neg hc,ehi,elo];exact congrArg Prod.snd (if_pos hd)) h
  have e:fsP s p=(16 * hi+lo,4):=by
   unfold fsP
   rw [if_neg (by omega),if_neg hs,if_neg hc,ehi,elo]
   exact if_neg hd
  rw [e]
  show rsL s p=escB (UInt8.ofNat (16 * hi+lo))++rsL s (p+4)
  have nb:(UInt8.ofNat (16 * hi+lo)).toNat=16 * hi+lo:=nat _ (by omega)
  rw [escB_mark (by rw [nb];simpa using hd),nb,rsL_at hp,rsL_at (p:=p+1) (by omega),rsL_at (p:=p+1+1) (by omega),rsL_at (p:=p+1+1+1) (by omega)]
  have q1:(16 * hi+lo) / 16=hi:=by omega
  have q2:(16 * hi+lo) % 16=lo:=by omega
  have q3:byA s p=38:=by omega
  have q4:byA s (p+1+1+1)=59:=by
   have:byA s (p+3)=59:=by omega
   exact this
  rw [q1,q2,q3,q4,← t1,← t2]
  rfl
theorem vpF_back (s:ByteArray):∀ (f p:Nat) (acc:List UInt8),s.size<f+p →
  (∃ u,vpF s f p acc=(acc++u,0,0)∧escL u=rsL s p)∨(∃ q,vpF s f p acc=([],q,160)∧q<s.size)
 | 0,p,acc,hf=>.inl ⟨[],by rw [vpF_end (by omega),List.append_nil],by
   have:rsL s p=[]:=by
    unfold rsL
    rw [List.drop_eq_nil_iff]
    have e:=dl_len s
    omega
   rw [this];rfl⟩
 | f+1,p,acc,hf=>by
  by_cases hp:s.size≤p
  ·refine .inl ⟨[],by rw [vpF_end hp,List.append_nil],?_⟩
   have:rsL s p=[]:=by
    unfold rsL
    rw [List.drop_eq_nil_iff]
    have e:=dl_len s
    omega
   rw [this];rfl
  have hp:p<s.size:=by omega
  by_cases h0:(fsP s p).2=0
  ·exact .inr ⟨p,(vpF_step hp).1 h0,hp⟩
  ·rw [(vpF_step hp).2 h0]
   rcases vpF_back s f (p+(fsP s p).2) (acc++[UInt8.ofNat (fsP s p).1]) (by omega) with ⟨u,h1,h2⟩ | ⟨q,h1,h2⟩
   ·refine .inl ⟨UInt8.ofNat (fsP s p).1 :: u,by rw [h1];simp,?_⟩
    rw [escL_cons,h2,← fsP_back h0]
   ·exact .inr ⟨q,h1,h2⟩
theorem vpA_back (s:ByteArray):(∃ u,vpA s=(u,0,0)∧escL u=s.data.toList)∨(∃ q,vpA s=([],q,160)∧q<s.size):=by
 rcases vpF_back s (s.size+1) 0 [] (by omega) with ⟨u,h1,h2⟩ | h
 ·exact .inl ⟨u,by simpa [vpA] using h1,by simpa [rsL] using h2⟩
 ·exact .inr h
end Go.Proofs.YtapachlhdgehjaaGreatDoor
