/-
  Texts of this claim, one behind the other: what each is about stands ahead of it.
-/
import Derived.Test.YtapachlhdgehjaaGreatDoorK40
import Derived.Test.YtapachlhdgehjaaGreatDoorK41
import Derived.Test.YtapachlhdgehjaaGreatDoorK9
import Derived.Test.YtapachlhdgehjaaGreatDoorK25
/- Contracts of package vector's reader: Read. -/
namespace Go.Proofs.YtapachlhdgehjaaGreatDoor
open Go.RowKit
def rdE (s:ByteArray):Int:=if 65536<s.size then 3 else match vsR s with
 | .inl _=>160
 | .inr (l,zw,zh)=>if sizB zw zh=false then 9 else chkS l
def rdA (s:ByteArray):Nat:=if 65536<s.size then 0 else match vsR s with
 | .inl q=>q
 | .inr _=>0
def rdL (s:ByteArray):List St:=if rdE s=0 then (match vsR s with | .inl _=>[] | .inr (l,_,_)=>l) else []
def rdW (s:ByteArray):Int:=if rdE s=0 then (match vsR s with | .inl _=>0 | .inr (_,zw,_)=>zw) else 0
def rdH (s:ByteArray):Int:=if rdE s=0 then (match vsR s with | .inl _=>0 | .inr (_,_,zh)=>zh) else 0
def RdQ (s:ByteArray) (w:World) (e:Ending) (w':World):Prop :=
 ∃ u,e = .returned (.tuple #[u,.agg #[.int .i64 (rdW s),.int .i64 (rdH s)],.int .i64 (rdA s:Nat),.int .i64 (rdE s)])∧OwS w.heap.size w' u (rdL s)∧Below w.heap.size w w'
theorem rdq_none {s:ByteArray} {w w':World} {e:Ending} {a:Nat} {c:Int} (h1:rdE s=c) (hc:c≠0) (h2:rdA s=a) (he:e = .returned (.tuple #[.slice none 0 0,.agg #[.int .i64 0,.int .i64 0],.int .i64 (a:Nat),.int .i64 c])) (hb:Below w.heap.size w w'):RdQ s w e w':=by
 have n:¬ rdE s=0:=by rw [h1];exact hc
 refine ⟨.slice none 0 0,?_,?_,hb⟩
 ·rw [he,h1,h2]
  unfold rdW rdH
  rw [if_neg n,if_neg n]
 ·unfold rdL
  rw [if_neg n]
  exact OwS.nil _ _
theorem rdq_some {s:ByteArray} {w w':World} {e:Ending} {u:Value} {l:List St} {zw zh:Int} (hs:¬ 65536<s.size) (hr:vsR s = .inr (l,zw,zh)) (hz:sizB zw zh=true) (hk:chkS l=0)
  (he:e = .returned (.tuple #[u,.agg #[.int .i64 zw,.int .i64 zh],.int .i64 0,.int .i64 0])) (ho:OwS w.heap.size w' u l) (hb:Below w.heap.size w w'):RdQ s w e w':=by
 have n:rdE s=0:=by unfold rdE;rw [if_neg hs,hr];simp [hz,hk]
 have a:rdA s=0:=by unfold rdA;rw [if_neg hs,hr]
 refine ⟨u,?_,?_,hb⟩
 ·rw [he,n,a]
  unfold rdW rdH
  rw [if_pos n,if_pos n,hr]
  rfl
 ·unfold rdL
  rw [if_pos n,hr]
  exact ho
theorem IsW.keepB {lo:Nat} {w w':World} {e:Value} {p:Nat} (h:IsW lo w e p) (hb:Below w.heap.size w w'):IsW lo w' e p:=by
 obtain ⟨g,f,m,h1,h2,h3,h4,h5⟩:=h
 exact ⟨g,f,m,h1,h2,h3,h4.below hb,h5.below hb⟩
theorem EtI.below {w w':World} (h:EtI w) (hb:Below w.heap.size w w'):EtI w':=by
 have hl:0<w.heap.size:=by
  rcases Nat.lt_or_ge 0 w.heap.size with h1 | h1
  ·exact h1
  ·exact absurd h (by unfold EtI;simp [World.cell?,Array.getElem?_eq_none h1])
 unfold EtI
 rw [hb.cell (p:=⟨0,0,none⟩) hl]
 exact h
set_option maxRecDepth 10000 in
set_option maxHeartbeats 4000000 in
theorem read_big (s:ByteArray) (w:World) (hs:65536<s.size):Calls Tryz.prog 13 #[.string s] w fun e w'=>RdQ s w e w':=by
 obtain ⟨zb,hzb⟩:∃ zb,zb=w.heap.size:=⟨_,rfl⟩
 have HZ:Hid (zb=w.heap.size):=hzb
 have HE:Hid (rdE s=3∧rdA s=0):=⟨by unfold rdE;rw [if_pos hs],by unfold rdA;rw [if_pos hs]⟩
 have HQ6:Hid (Bk (w.alloc (.cells #[.int .i64 0,.int .i64 0] 23)) zb #[.int .i64 0,.int .i64 0] 23∧Below w.heap.size w (w.alloc (.cells #[.int .i64 0,.int .i64 0] 23))):=⟨by rw [hzb];exact Bk.new w _ _,(Below.refl _ w).alloc (Nat.le_refl _) _⟩
 have hs1:(65536:Int)<s.size:=by omega
 go_enter Tryz.func13,Tryz.ntmps13
 go_wp2_with fail
 rw [← hzb]
 clear hzb
 have hld:(loadVar 23 ⟨zb,0,none⟩).run Tryz.prog (w.alloc (.cells #[.int .i64 0,.int .i64 0] 23)) = .ok (.agg #[.int .i64 0,.int .i64 0]) (w.alloc (.cells #[.int .i64 0,.int .i64 0] 23)):=run_loadVar_row _ (zb) 23 23 #[.int .i64 0,.int .i64 0] (0,0) _ HQ6.out.1 Tryz.underlying23 rfl size_siz
 refine bodyPost_ret (v:=.tuple #[.slice none 0 0,.agg #[.int .i64 0,.int .i64 0],.int .i64 0,.int .i64 3]) ?_ rfl (rdq_none HE.out.1 (by decide) HE.out.2 rfl HQ6.out.2)
 simp [results,Tryz.results13,asAddr,hld]
theorem read_start (s:ByteArray) (w:World) (zb:Nat) (hzb:zb=w.heap.size) (hs:s.size≤65536) (hE:EnR w.heap.size w):Bk (w.alloc (.cells #[.int .i64 0,.int .i64 0] 23)) zb #[.int .i64 0,.int .i64 0] 23∧Below w.heap.size w (w.alloc (.cells #[.int .i64 0,.int .i64 0] 23))∧Calls Tryz.prog 36 #[.string s] (w.alloc (.cells #[.int .i64 0,.int .i64 0] 23)) fun e w'=>VsQ (vsR s) (w.alloc (.cells #[.int .i64 0,.int .i64 0] 23)) e w':=by
 have b:Below w.heap.size w (w.alloc (.cells #[.int .i64 0,.int .i64 0] 23)):=(Below.refl _ w).alloc (Nat.le_refl _) _
 exact ⟨by rw [hzb];exact Bk.new w _ _,b,shapesR_any s _ (by omega) ((hE.on b).mono b.size)⟩
def JR6 (w:World) (fb zb q:Nat) (b:Nat→Bool) (u2 u4 u5 u25 u26 u27 u28 u29:Value) (x:World):Prop :=
 (b 0=true→u25 = .agg #[.int .i64 0,.int .i64 0]) ∧
 (b 1=true→u26 = .pointer (some ⟨fb,1,none⟩)) ∧
 (b 2=true→u27 = .int .i64 (q:Nat)) ∧
 (b 3=true→u28 = .pointer (some ⟨fb,0,none⟩)) ∧
 (b 4=true→u29 = .int .i64 160) ∧
 (b 5=true→u2 = .slice none 0 0) ∧
 (b 7=true→u4 = .int .i64 (q:Nat)) ∧
 (b 8=true→u5 = .int .i64 160) ∧
 Bk x fb #[.int .i64 160,.int .i64 (q:Nat)] 84 ∧
 Bk x zb #[.int .i64 0,.int .i64 0] 23 ∧
 Below w.heap.size w x
set_option maxRecDepth 10000 in
set_option maxHeartbeats 8000000 in
theorem read_wrong (s:ByteArray) (q:Nat) (w:World) (hs:s.size≤65536) (hE:EnR w.heap.size w) (hT:EtI w) (hr:vsR s = .inl q):Calls Tryz.prog 13 #[.string s] w fun e w'=>RdQ s w e w':=by
 obtain ⟨zb,hzb⟩:∃ zb,zb=w.heap.size:=⟨_,rfl⟩
 have HZ:Hid (zb=w.heap.size∧EtI w):=⟨hzb,hT⟩
 have HE:Hid (rdE s=160∧rdA s=q):=⟨by unfold rdE;rw [if_neg (by omega),hr],by unfold rdA;rw [if_neg (by omega),hr]⟩
 have H0:=show Hid _ from read_start s w zb hzb hs hE
 rw [hr] at H0
 have hs1:¬ (65536:Int)<s.size:=by omega
 clear hE hT hr
 go_enter Tryz.func13,Tryz.ntmps13
 go_wp2_with fail
 rw [← hzb]
 clear hzb
 refine H0.out.2.2.mono ?_
 rintro e w1 ⟨v,rfl,hv,hb1⟩
 obtain ⟨gi,hgi⟩:=isw_iface hv
 have hz0:(w.alloc (.cells #[.int .i64 0,.int .i64 0] 23)).heap.size=w.heap.size+1:=by simp
 have HA:Hid (IsW 0 (w1.alloc (.cells #[.int .i64 0,.int .i64 0] 23)) v q∧Bk (w1.alloc (.cells #[.int .i64 0,.int .i64 0] 23)) zb #[.int .i64 0,.int .i64 0] 23∧Below w.heap.size w (w1.alloc (.cells #[.int .i64 0,.int .i64 0] 23))∧EtI (w1.alloc (.cells #[.int .i64 0,.int .i64 0] 23))∧zb<(w1.alloc (.cells #[.int .i64 0,.int .i64 0] 23)).heap.size):=by
  have b1:Below w1.heap.size w1 (w1.alloc (.cells #[.int .i64 0,.int .i64 0] 23)):=(Below.refl _ w1).alloc (Nat.le_refl _) _
  have hz:=HZ.out.1
  have bb:=H0.out.2.1.trans (hb1.mono (by omega))
  have bw:=bb.trans (b1.mono bb.size)
  have k:=(H0.out.1.below hb1).below b1
  refine ⟨(hv.weaken (Nat.zero_le _):IsW 0 w1 v q).keepB b1,k,bw,HZ.out.2.below bw,k.lt⟩
 subst hgi
 clear hv hb1 hz0 H0
 go_wp2_with fail
 refine (fault_any 0 q _ _ HA.out.1 HA.out.2.2.2.1).mono ?_
 rintro e w3 ⟨rfl,hb3⟩
 obtain ⟨fb,hfb⟩:∃ fb,fb=w3.heap.size:=⟨_,rfl⟩
 have HN:Hid (Bk (w3.alloc (.cells #[.int .i64 160,.int .i64 (q:Nat)] 84)) fb #[.int .i64 160,.int .i64 (q:Nat)] 84∧Bk (w3.alloc (.cells #[.int .i64 160,.int .i64 (q:Nat)] 84)) zb #[.int .i64 0,.int .i64 0] 23∧Below w.heap.size w (w3.alloc (.cells #[.int .i64 160,.int .i64 (q:Nat)] 84))):=by
  have b1:Below w3.heap.size w3 (w3.alloc (.cells #[.int .i64 160,.int .i64 (q:Nat)] 84)):=(Below.refl _ w3).alloc (Nat.le_refl _) _
  have hz:=HZ.out.1
  have h5:=HA.out.2.2.2.2
  have bb:=HA.out.2.2.1.trans (hb3.mono HA.out.2.2.1.size)
  exact ⟨by rw [hfb];exact Bk.new _ _ _,(HA.out.2.1.below hb3).below b1,bb.trans (b1.mono bb.size)⟩
 have HFZ:Hid (fb≠zb∧w.heap.size≤zb):=by
  have h1:=hb3.size
  have h2:=HA.out.2.2.2.2
  have h3:=HZ.out.1
  exact ⟨by omega,by omega⟩
 clear hb3 HA
 obtain ⟨qb,hqb⟩:∃ qb,qb=w1.heap.size:=⟨_,rfl⟩
 go_wp2_with fail
 rw [← hfb,← hqb]
 clear hfb hqb
 generalize hWW:w3.alloc (.cells #[.int .i64 160,.int .i64 (q:Nat)] 84)=WW at *
 refine wp_region_inv (I:=(fun b a x=>∃ u2 u4 u5 u25 u26 u27 u28 u29,a=⟨#[.string s,undef,u2,.pointer (some ⟨zb,0,none⟩),u4,u5,.slice none 0 0,.pointer (some ⟨qb,0,none⟩),.iface 163 (.pointer (some ⟨gi,0,none⟩)),.pointer (some ⟨fb,0,none⟩),undef,.string s,.int .i64 (s.size:Nat),.bool false,undef,.tuple #[.slice none 0 0,.agg #[.int .i64 0,.int .i64 0],.iface 163 (.pointer (some ⟨gi,0,none⟩))],.string s,.tuple #[.slice none 0 0,.agg #[.int .i64 0,.int .i64 0],.iface 163 (.pointer (some ⟨gi,0,none⟩))],.slice none 0 0,.agg #[.int .i64 0,.int .i64 0],.iface 163 (.pointer (some ⟨gi,0,none⟩)),.iface 163 (.pointer (some ⟨gi,0,none⟩)),.bool true,.iface 163 (.pointer (some ⟨gi,0,none⟩)),.agg #[.int .i64 160,.int .i64 (q:Nat)],u25,u26,u27,u28,u29,undef,undef,undef,undef,undef,undef,undef,undef,undef,undef,undef,undef],[]⟩∧Hid (JR6 w fb zb q b u2 u4 u5 u25 u26 u27 u28 u29 x))) (by kernel_rfl) (by kernel_rfl) ?_ ?_ ?_
 ·exact ⟨_,_,_,_,_,_,_,_,rfl,⟨(fun e=>by cases e),(fun e=>by cases e),(fun e=>by cases e),(fun e=>by cases e),(fun e=>by cases e),(fun e=>by cases e),(fun e=>by cases e),(fun e=>by cases e),HN.out.1.below (Below.refl _ _).drew,HN.out.2.1.below (Below.refl _ _).drew,HN.out.2.2.drew⟩⟩
 ·intro b a x i o hI hbi ho hpre K' hK
  obtain ⟨u2,u4,u5,u25,u26,u27,u28,u29,rfl,HJ⟩:=hI
  have hi:i<9:=by have:=(Array.getElem?_eq_some_iff.1 ho).1;simpa using this
  rcases (show i=0∨i=1∨i=2∨i=3∨i=4∨i=5∨i=6∨i=7∨i=8 by omega) with rfl | rfl | rfl | rfl | rfl | rfl | rfl | rfl | rfl
  ·injection (show some _=some o from ho) with ho
   subst ho
   have HN:Hid (JR6 w fb zb q (fun j=>if j=0 then true else b j) u2 u4 u5 (.agg #[.int .i64 0,.int .i64 0]) u26 u27 u28 u29 x):=by
    obtain ⟨j0,j1,j2,j3,j4,j5,j7,j8,e0,e1,e2⟩:=HJ.out
    exact ⟨fun _=>rfl,j1,j2,j3,j4,j5,j7,j8,e0,e1,e2⟩
   clear HJ hpre
   go_simp
   exact hK _ _ ⟨u2,u4,u5,_,u26,u27,u28,u29,rfl,HN⟩
  ·injection (show some _=some o from ho) with ho
   subst ho
   have HN:Hid (JR6 w fb zb q (fun j=>if j=1 then true else b j) u2 u4 u5 u25 (.pointer (some ⟨fb,1,none⟩)) u27 u28 u29 x):=by
    obtain ⟨j0,j1,j2,j3,j4,j5,j7,j8,e0,e1,e2⟩:=HJ.out
    exact ⟨j0,fun _=>rfl,j2,j3,j4,j5,j7,j8,e0,e1,e2⟩
   clear HJ hpre
   go_simp
   exact hK _ _ ⟨u2,u4,u5,u25,_,u27,u28,u29,rfl,HN⟩
  ·injection (show some _=some o from ho) with ho
   subst ho
   have p1:b 1=true:=hpre 1 (by decide +kernel)
   obtain rfl:u26 = .pointer (some ⟨fb,1,none⟩):=by obtain ⟨j0,j1,j2,j3,j4,j5,j7,j8,e0,e1,e2⟩:=HJ.out;exact (j1 p1)
   have c1:x.cell? ⟨fb,1,none⟩=some (.int .i64 (q:Nat)):=by obtain ⟨j0,j1,j2,j3,j4,j5,j7,j8,e0,e1,e2⟩:=HJ.out;exact (Bk.at2 e0).2
   have HN:Hid (JR6 w fb zb q (fun j=>if j=2 then true else b j) u2 u4 u5 u25 (.pointer (some ⟨fb,1,none⟩)) (.int .i64 (q:Nat)) u28 u29 x):=by
    obtain ⟨j0,j1,j2,j3,j4,j5,j7,j8,e0,e1,e2⟩:=HJ.out
    exact ⟨j0,j1,fun _=>rfl,j3,j4,j5,j7,j8,e0,e1,e2⟩
   clear HJ hpre
   go_simp
   exact hK _ _ ⟨u2,u4,u5,u25,_,_,u28,u29,rfl,HN⟩
  ·injection (show some _=some o from ho) with ho
   subst ho
   have HN:Hid (JR6 w fb zb q (fun j=>if j=3 then true else b j) u2 u4 u5 u25 u26 u27 (.pointer (some ⟨fb,0,none⟩)) u29 x):=by
    obtain ⟨j0,j1,j2,j3,j4,j5,j7,j8,e0,e1,e2⟩:=HJ.out
    exact ⟨j0,j1,j2,fun _=>rfl,j4,j5,j7,j8,e0,e1,e2⟩
   clear HJ hpre
   go_simp
   exact hK _ _ ⟨u2,u4,u5,u25,u26,u27,_,u29,rfl,HN⟩
  ·injection (show some _=some o from ho) with ho
   subst ho
   have p3:b 3=true:=hpre 3 (by decide +kernel)
   obtain rfl:u28 = .pointer (some ⟨fb,0,none⟩):=by obtain ⟨j0,j1,j2,j3,j4,j5,j7,j8,e0,e1,e2⟩:=HJ.out;exact (j3 p3)
   have c1:x.cell? ⟨fb,0,none⟩=some (.int .i64 160):=by obtain ⟨j0,j1,j2,j3,j4,j5,j7,j8,e0,e1,e2⟩:=HJ.out;exact (Bk.at2 e0).1
   have HN:Hid (JR6 w fb zb q (fun j=>if j=4 then true else b j) u2 u4 u5 u25 u26 u27 (.pointer (some ⟨fb,0,none⟩)) (.int .i64 160) x):=by
    obtain ⟨j0,j1,j2,j3,j4,j5,j7,j8,e0,e1,e2⟩:=HJ.out
    exact ⟨j0,j1,j2,j3,fun _=>rfl,j5,j7,j8,e0,e1,e2⟩
   clear HJ hpre
   go_simp
   exact hK _ _ ⟨u2,u4,u5,u25,u26,u27,_,_,rfl,HN⟩
  ·injection (show some _=some o from ho) with ho
   subst ho
   have HN:Hid (JR6 w fb zb q (fun j=>if j=5 then true else b j) (.slice none 0 0) u4 u5 u25 u26 u27 u28 u29 x):=by
    obtain ⟨j0,j1,j2,j3,j4,j5,j7,j8,e0,e1,e2⟩:=HJ.out
    exact ⟨j0,j1,j2,j3,j4,fun _=>rfl,j7,j8,e0,e1,e2⟩
   clear HJ hpre
   go_simp
   exact hK _ _ ⟨_,u4,u5,u25,u26,u27,u28,u29,rfl,HN⟩
  ·injection (show some _=some o from ho) with ho
   subst ho
   have p0:b 0=true:=hpre 0 (by decide +kernel)
   obtain rfl:u25 = .agg #[.int .i64 0,.int .i64 0]:=by obtain ⟨j0,j1,j2,j3,j4,j5,j7,j8,e0,e1,e2⟩:=HJ.out;exact (j0 p0)
   have z0:x.cell? ⟨zb,0,none⟩=some (.int .i64 0):=by obtain ⟨j0,j1,j2,j3,j4,j5,j7,j8,e0,e1,e2⟩:=HJ.out;exact (Bk.at2 e1).1
   have z1:x.cell? ⟨zb,1,none⟩=some (.int .i64 0):=by obtain ⟨j0,j1,j2,j3,j4,j5,j7,j8,e0,e1,e2⟩:=HJ.out;exact (Bk.at2 e1).2
   have f0:x.frozen? ⟨zb,0,none⟩=false:=by obtain ⟨j0,j1,j2,j3,j4,j5,j7,j8,e0,e1,e2⟩:=HJ.out;exact Bk.frozen e1 0
   have f1:x.frozen? ⟨zb,1,none⟩=false:=by obtain ⟨j0,j1,j2,j3,j4,j5,j7,j8,e0,e1,e2⟩:=HJ.out;exact Bk.frozen e1 1
   have HN:Hid (JR6 w fb zb q (fun j=>if j=6 then true else b j) u2 u4 u5 (.agg #[.int .i64 0,.int .i64 0]) u26 u27 u28 u29 ((x.setCell ⟨zb,0,none⟩ (.int .i64 0)).setCell ⟨zb,1,none⟩ (.int .i64 0))):=by
    obtain ⟨j0,j1,j2,j3,j4,j5,j7,j8,e0,e1,e2⟩:=HJ.out
    have k:Kp2 zb zb x ((x.setCell ⟨zb,0,none⟩ (.int .i64 0)).setCell ⟨zb,1,none⟩ (.int .i64 0)):=(Kp2.put _ _ _ _ _).trans (Kp2.put _ _ _ _ _)
    exact ⟨j0,j1,j2,j3,j4,j5,j7,j8,k.bk e0 HFZ.out.1 HFZ.out.1,Bk.put (Bk.put e1 0 (.int .i64 0)) 1 (.int .i64 0),e2.trans (k.below e2.size HFZ.out.2 HFZ.out.2)⟩
   clear HJ hpre
   go_simp
   exact hK _ _ ⟨u2,u4,u5,_,u26,u27,u28,u29,rfl,HN⟩
  ·injection (show some _=some o from ho) with ho
   subst ho
   have p2:b 2=true:=hpre 2 (by decide +kernel)
   obtain rfl:u27 = .int .i64 (q:Nat):=by obtain ⟨j0,j1,j2,j3,j4,j5,j7,j8,e0,e1,e2⟩:=HJ.out;exact (j2 p2)
   have HN:Hid (JR6 w fb zb q (fun j=>if j=7 then true else b j) u2 (.int .i64 (q:Nat)) u5 u25 u26 (.int .i64 (q:Nat)) u28 u29 x):=by
    obtain ⟨j0,j1,j2,j3,j4,j5,j7,j8,e0,e1,e2⟩:=HJ.out
    exact ⟨j0,j1,j2,j3,j4,j5,fun _=>rfl,j8,e0,e1,e2⟩
   clear HJ hpre
   go_simp
   exact hK _ _ ⟨u2,_,u5,u25,u26,_,u28,u29,rfl,HN⟩
  ·injection (show some _=some o from ho) with ho
   subst ho
   have p4:b 4=true:=hpre 4 (by decide +kernel)
   obtain rfl:u29 = .int .i64 160:=by obtain ⟨j0,j1,j2,j3,j4,j5,j7,j8,e0,e1,e2⟩:=HJ.out;exact (j4 p4)
   have HN:Hid (JR6 w fb zb q (fun j=>if j=8 then true else b j) u2 u4 (.int .i64 160) u25 u26 u27 u28 (.int .i64 160) x):=by
    obtain ⟨j0,j1,j2,j3,j4,j5,j7,j8,e0,e1,e2⟩:=HJ.out
    exact ⟨j0,j1,j2,j3,j4,j5,j7,fun _=>rfl,e0,e1,e2⟩
   clear HJ hpre
   go_simp
   exact hK _ _ ⟨u2,u4,_,u25,u26,u27,u28,_,rfl,HN⟩
 ·intro b a x hI hall
  obtain ⟨u2,u4,u5,u25,u26,u27,u28,u29,rfl,HJ⟩:=hI
  have hall':∀ i,i<9→b i=true:=fun i hi=>hall i (by simpa using hi)
  obtain ⟨j0,j1,j2,j3,j4,j5,j7,j8,e0,e1,e2⟩:=HJ.out
  obtain rfl:=j5 (hall' 5 (by omega))
  obtain rfl:=j7 (hall' 7 (by omega))
  obtain rfl:=j8 (hall' 8 (by omega))
  have HF4:Hid (Bk x zb #[.int .i64 0,.int .i64 0] 23∧Below w.heap.size w x):=⟨e1,e2⟩
  clear HJ hall hall' j0 j1 j2 j3 j4 j5 j7 j8 e0 e1 e2 HN
  go_wp2_with fail
  have hld:(loadVar 23 ⟨zb,0,none⟩).run Tryz.prog x = .ok (.agg #[.int .i64 0,.int .i64 0]) x:=run_loadVar_row x zb 23 23 #[.int .i64 0,.int .i64 0] (0,0) _ HF4.out.1 Tryz.underlying23 rfl size_siz
  refine bodyPost_ret (v:=.tuple #[.slice none 0 0,.agg #[.int .i64 0,.int .i64 0],.int .i64 (q:Nat),.int .i64 160]) ?_ rfl (rdq_none HE.out.1 (by decide) HE.out.2 rfl HF4.out.2)
  simp [results,Tryz.results13,asAddr,hld]
set_option maxRecDepth 10000 in
set_option maxHeartbeats 8000000 in
theorem read_size (s:ByteArray) (l:List St) (zw zh:Int) (w:World) (hs:s.size≤65536) (hE:EnR w.heap.size w) (hr:vsR s = .inr (l,zw,zh)) (hz:sizB zw zh=false):Calls Tryz.prog 13 #[.string s] w fun e w'=>RdQ s w e w':=by
 obtain ⟨zb,hzb⟩:∃ zb,zb=w.heap.size:=⟨_,rfl⟩
 have HZ:Hid (zb=w.heap.size):=hzb
 obtain ⟨_,hwf,hi1,hi2⟩:=vsR_text (by omega) hr
 have HI:Hid (I64 zw∧I64 zh∧Wfs l):=⟨hi1,hi2,hwf⟩
 have HE:Hid (rdE s=9∧rdA s=0):=⟨by unfold rdE;rw [if_neg (by omega),hr];simp [hz],by unfold rdA;rw [if_neg (by omega),hr]⟩
 have H0:=show Hid _ from read_start s w zb hzb hs hE
 rw [hr] at H0
 have hs1:¬ (65536:Int)<s.size:=by omega
 clear hE hr hwf hi1 hi2
 go_enter Tryz.func13,Tryz.ntmps13
 go_wp2_with fail
 rw [← hzb]
 clear hzb
 refine H0.out.2.2.mono ?_
 rintro e w1 ⟨u,rfl,hu,hb1⟩
 have hz0:(w.alloc (.cells #[.int .i64 0,.int .i64 0] 23)).heap.size=w.heap.size+1:=by simp
 obtain ⟨qb,hqb⟩:∃ qb,qb=w1.heap.size:=⟨_,rfl⟩
 have HA:Hid (Bk (w1.alloc (.cells #[.int .i64 zw,.int .i64 zh] 23)) qb #[.int .i64 zw,.int .i64 zh] 23∧Bk (w1.alloc (.cells #[.int .i64 zw,.int .i64 zh] 23)) zb #[.int .i64 0,.int .i64 0] 23∧Below w.heap.size w (w1.alloc (.cells #[.int .i64 zw,.int .i64 zh] 23))∧OwS (w.heap.size+1) (w1.alloc (.cells #[.int .i64 zw,.int .i64 zh] 23)) u l):=by
  have b1:Below w1.heap.size w1 (w1.alloc (.cells #[.int .i64 zw,.int .i64 zh] 23)):=(Below.refl _ w1).alloc (Nat.le_refl _) _
  have hz:=HZ.out
  have bb:=H0.out.2.1.trans (hb1.mono (by omega))
  have hu2:OwS (w.heap.size+1) w1 u l:=by rw [← hz0];exact hu
  exact ⟨by rw [hqb];exact Bk.new _ _ _,(H0.out.1.below hb1).below b1,bb.trans (b1.mono bb.size),row_below hu2 b1⟩
 clear hu hb1 hz0 H0
 have HC1:Hid (∀ W,Calls Tryz.prog 34 #[.agg #[.int .i64 zw,.int .i64 zh]] W fun e w'=>e = .returned (.bool (sizB zw zh))∧Below W.heap.size W w'):=fun W=>siz_any zw zh W HI.out.1 HI.out.2.1
 rw [show sizB zw zh=false from hz] at HC1
 go_wp2_with fail
 generalize hWA:w1.alloc (.cells #[.int .i64 zw,.int .i64 zh] 23)=WA at *
 rw [← hqb]
 clear hWA hqb
 refine (HC1.out _).mono ?_
 rintro e w2 ⟨rfl,hb2⟩
 have HB:Hid (Bk w2 qb #[.int .i64 zw,.int .i64 zh] 23∧Bk w2 zb #[.int .i64 0,.int .i64 0] 23∧Below w.heap.size w w2∧OwS (w.heap.size+1) w2 u l):=⟨HA.out.1.below hb2,HA.out.2.1.below hb2,HA.out.2.2.1.trans (hb2.mono HA.out.2.2.1.size),row_below HA.out.2.2.2 hb2⟩
 clear hb2 HA HC1
 have HQ6:Hid (Bk w2 zb #[.int .i64 0,.int .i64 0] 23∧Below w.heap.size w w2):=⟨HB.out.2.1,HB.out.2.2.1⟩
 go_wp2_with (refine wpList_store_row rfl 23 (.tmp 3) (.tmp 33) rfl zb #[.int .i64 0,.int .i64 0] rfl rfl 23 _ HQ6.out.1 size_siz rfl (by simp [Value.oneCell']) ?_)
 obtain ⟨W3,hW3⟩:∃ W3,W3=(w2).setRow zb #[.int .i64 0,.int .i64 0]:=⟨_,rfl⟩
 rw [← hW3]
 have hB3:Bk W3 zb #[.int .i64 0,.int .i64 0] 23:=by rw [hW3];exact setRow_heap _ _ _ _ _ _ HQ6.out.1
 have hld:(loadVar 23 ⟨zb,0,none⟩).run Tryz.prog W3 = .ok (.agg #[.int .i64 0,.int .i64 0]) W3:=run_loadVar_row W3 (zb) 23 23 #[.int .i64 0,.int .i64 0] (0,0) _ hB3 Tryz.underlying23 rfl size_siz
 have hK3:Kp2 (zb) (zb) (w2) W3:=by rw [hW3];exact Kp2.row _ _ _ _
 refine bodyPost_ret (v:=.tuple #[.slice none 0 0,.agg #[.int .i64 0,.int .i64 0],.int .i64 0,.int .i64 9]) ?_ rfl (rdq_none HE.out.1 (by decide) HE.out.2 rfl (HQ6.out.2.trans (hK3.below HQ6.out.2.size (by have:=HZ.out;omega) (by have:=HZ.out;omega))))
 simp [results,Tryz.results13,asAddr,hld]
set_option maxRecDepth 10000 in
set_option maxHeartbeats 8000000 in
theorem read_list (s:ByteArray) (l:List St) (zw zh:Int) (w:World) (hs:s.size≤65536) (hE:EnR w.heap.size w) (hr:vsR s = .inr (l,zw,zh)) (hz:sizB zw zh=true) (hk:¬ chkS l=0):Calls Tryz.prog 13 #[.string s] w fun e w'=>RdQ s w e w':=by
 obtain ⟨zb,hzb⟩:∃ zb,zb=w.heap.size:=⟨_,rfl⟩
 have HZ:Hid (zb=w.heap.size):=hzb
 obtain ⟨_,hwf,hi1,hi2⟩:=vsR_text (by omega) hr
 have HI:Hid (I64 zw∧I64 zh∧Wfs l):=⟨hi1,hi2,hwf⟩
 have HE:Hid (rdE s=chkS l∧rdA s=0):=⟨by unfold rdE;rw [if_neg (by omega),hr];simp [hz],by unfold rdA;rw [if_neg (by omega),hr]⟩
 have H0:=show Hid _ from read_start s w zb hzb hs hE
 rw [hr] at H0
 have hs1:¬ (65536:Int)<s.size:=by omega
 clear hE hr hwf hi1 hi2
 go_enter Tryz.func13,Tryz.ntmps13
 go_wp2_with fail
 rw [← hzb]
 clear hzb
 refine H0.out.2.2.mono ?_
 rintro e w1 ⟨u,rfl,hu,hb1⟩
 have hz0:(w.alloc (.cells #[.int .i64 0,.int .i64 0] 23)).heap.size=w.heap.size+1:=by simp
 obtain ⟨qb,hqb⟩:∃ qb,qb=w1.heap.size:=⟨_,rfl⟩
 have HA:Hid (Bk (w1.alloc (.cells #[.int .i64 zw,.int .i64 zh] 23)) qb #[.int .i64 zw,.int .i64 zh] 23∧Bk (w1.alloc (.cells #[.int .i64 zw,.int .i64 zh] 23)) zb #[.int .i64 0,.int .i64 0] 23∧Below w.heap.size w (w1.alloc (.cells #[.int .i64 zw,.int .i64 zh] 23))∧OwS (w.heap.size+1) (w1.alloc (.cells #[.int .i64 zw,.int .i64 zh] 23)) u l):=by
  have b1:Below w1.heap.size w1 (w1.alloc (.cells #[.int .i64 zw,.int .i64 zh] 23)):=(Below.refl _ w1).alloc (Nat.le_refl _) _
  have hz:=HZ.out
  have bb:=H0.out.2.1.trans (hb1.mono (by omega))
  have hu2:OwS (w.heap.size+1) w1 u l:=by rw [← hz0];exact hu
  exact ⟨by rw [hqb];exact Bk.new _ _ _,(H0.out.1.below hb1).below b1,bb.trans (b1.mono bb.size),row_below hu2 b1⟩
 clear hu hb1 hz0 H0
 have HC1:Hid (∀ W,Calls Tryz.prog 34 #[.agg #[.int .i64 zw,.int .i64 zh]] W fun e w'=>e = .returned (.bool (sizB zw zh))∧Below W.heap.size W w'):=fun W=>siz_any zw zh W HI.out.1 HI.out.2.1
 rw [show sizB zw zh=true from hz] at HC1
 go_wp2_with fail
 generalize hWA:w1.alloc (.cells #[.int .i64 zw,.int .i64 zh] 23)=WA at *
 rw [← hqb]
 clear hWA hqb
 refine (HC1.out _).mono ?_
 rintro e w2 ⟨rfl,hb2⟩
 have HB:Hid (Bk w2 qb #[.int .i64 zw,.int .i64 zh] 23∧Bk w2 zb #[.int .i64 0,.int .i64 0] 23∧Below w.heap.size w w2∧OwS (w.heap.size+1) w2 u l):=⟨HA.out.1.below hb2,HA.out.2.1.below hb2,HA.out.2.2.1.trans (hb2.mono HA.out.2.2.1.size),row_below HA.out.2.2.2 hb2⟩
 clear hb2 HA HC1
 obtain ⟨ck,hck⟩:∃ ck,ck=chkS l:=⟨_,rfl⟩
 have HC2:Hid (∀ W,OwS (w.heap.size+1) W u l→Calls Tryz.prog 15 #[u] W fun e w'=>e = .returned (.int .i64 ck)∧Below W.heap.size W w'):=fun W h=>by
  rw [hck]
  exact lcheck_any l u W h.lss HI.out.2.2.txs (xys_of HI.out.2.2)
 rw [← hck] at HE hk
 have HK:Hid (¬ ck=0):=hk
 clear hck
 go_wp2_with fail
 refine (HC2.out _ HB.out.2.2.2).mono ?_
 rintro e w3 ⟨rfl,hb3⟩
 have HQ6:Hid (Bk w3 zb #[.int .i64 0,.int .i64 0] 23∧Below w.heap.size w w3):=⟨HB.out.2.1.below hb3,HB.out.2.2.1.trans (hb3.mono HB.out.2.2.1.size)⟩
 clear hb3 HB HC2
 go_wp2_with (refine wpList_store_row rfl 23 (.tmp 3) (.tmp 38) rfl zb #[.int .i64 0,.int .i64 0] rfl rfl 23 _ HQ6.out.1 size_siz rfl (by simp [Value.oneCell']) ?_)
 obtain ⟨W3,hW3⟩:∃ W3,W3=(w3).setRow zb #[.int .i64 0,.int .i64 0]:=⟨_,rfl⟩
 rw [← hW3]
 have hB3:Bk W3 zb #[.int .i64 0,.int .i64 0] 23:=by rw [hW3];exact setRow_heap _ _ _ _ _ _ HQ6.out.1
 have hld:(loadVar 23 ⟨zb,0,none⟩).run Tryz.prog W3 = .ok (.agg #[.int .i64 0,.int .i64 0]) W3:=run_loadVar_row W3 (zb) 23 23 #[.int .i64 0,.int .i64 0] (0,0) _ hB3 Tryz.underlying23 rfl size_siz
 have hK3:Kp2 (zb) (zb) (w3) W3:=by rw [hW3];exact Kp2.row _ _ _ _
 refine bodyPost_ret (v:=.tuple #[.slice none 0 0,.agg #[.int .i64 0,.int .i64 0],.int .i64 0,.int .i64 ck]) ?_ rfl (rdq_none HE.out.1 HK.out HE.out.2 rfl (HQ6.out.2.trans (hK3.below HQ6.out.2.size (by have:=HZ.out;omega) (by have:=HZ.out;omega))))
 simp [results,Tryz.results13,asAddr,hld]
set_option maxRecDepth 10000 in
set_option maxHeartbeats 8000000 in
theorem read_good (s:ByteArray) (l:List St) (zw zh:Int) (w:World) (hs:s.size≤65536) (hE:EnR w.heap.size w) (hr:vsR s = .inr (l,zw,zh)) (hz:sizB zw zh=true) (hk:chkS l=0):Calls Tryz.prog 13 #[.string s] w fun e w'=>RdQ s w e w':=by
 obtain ⟨zb,hzb⟩:∃ zb,zb=w.heap.size:=⟨_,rfl⟩
 have HZ:Hid (zb=w.heap.size):=hzb
 obtain ⟨_,hwf,hi1,hi2⟩:=vsR_text (by omega) hr
 have HI:Hid (I64 zw∧I64 zh∧Wfs l):=⟨hi1,hi2,hwf⟩
 have HE:Hid (¬ 65536<s.size∧vsR s = .inr (l,zw,zh)∧sizB zw zh=true∧chkS l=0):=⟨by omega,hr,hz,hk⟩
 have H0:=show Hid _ from read_start s w zb hzb hs hE
 rw [hr] at H0
 have hs1:¬ (65536:Int)<s.size:=by omega
 clear hE hr hwf hi1 hi2
 go_enter Tryz.func13,Tryz.ntmps13
 go_wp2_with fail
 rw [← hzb]
 clear hzb
 refine H0.out.2.2.mono ?_
 rintro e w1 ⟨u,rfl,hu,hb1⟩
 have hz0:(w.alloc (.cells #[.int .i64 0,.int .i64 0] 23)).heap.size=w.heap.size+1:=by simp
 obtain ⟨qb,hqb⟩:∃ qb,qb=w1.heap.size:=⟨_,rfl⟩
 have HA:Hid (Bk (w1.alloc (.cells #[.int .i64 zw,.int .i64 zh] 23)) qb #[.int .i64 zw,.int .i64 zh] 23∧Bk (w1.alloc (.cells #[.int .i64 zw,.int .i64 zh] 23)) zb #[.int .i64 0,.int .i64 0] 23∧Below w.heap.size w (w1.alloc (.cells #[.int .i64 zw,.int .i64 zh] 23))∧OwS (w.heap.size+1) (w1.alloc (.cells #[.int .i64 zw,.int .i64 zh] 23)) u l):=by
  have b1:Below w1.heap.size w1 (w1.alloc (.cells #[.int .i64 zw,.int .i64 zh] 23)):=(Below.refl _ w1).alloc (Nat.le_refl _) _
  have hz:=HZ.out
  have bb:=H0.out.2.1.trans (hb1.mono (by omega))
  have hu2:OwS (w.heap.size+1) w1 u l:=by rw [← hz0];exact hu
  exact ⟨by rw [hqb];exact Bk.new _ _ _,(H0.out.1.below hb1).below b1,bb.trans (b1.mono bb.size),row_below hu2 b1⟩
 clear hu hb1 hz0 H0
 have HC1:Hid (∀ W,Calls Tryz.prog 34 #[.agg #[.int .i64 zw,.int .i64 zh]] W fun e w'=>e = .returned (.bool (sizB zw zh))∧Below W.heap.size W w'):=fun W=>siz_any zw zh W HI.out.1 HI.out.2.1
 rw [show sizB zw zh=true from hz] at HC1
 go_wp2_with fail
 generalize hWA:w1.alloc (.cells #[.int .i64 zw,.int .i64 zh] 23)=WA at *
 rw [← hqb]
 clear hWA hqb
 refine (HC1.out _).mono ?_
 rintro e w2 ⟨rfl,hb2⟩
 have HB:Hid (Bk w2 qb #[.int .i64 zw,.int .i64 zh] 23∧Bk w2 zb #[.int .i64 0,.int .i64 0] 23∧Below w.heap.size w w2∧OwS (w.heap.size+1) w2 u l):=⟨HA.out.1.below hb2,HA.out.2.1.below hb2,HA.out.2.2.1.trans (hb2.mono HA.out.2.2.1.size),row_below HA.out.2.2.2 hb2⟩
 clear hb2 HA HC1
 have HC2:Hid (∀ W,OwS (w.heap.size+1) W u l→Calls Tryz.prog 15 #[u] W fun e w'=>e = .returned (.int .i64 0)∧Below W.heap.size W w'):=fun W h=>by
  have:=lcheck_any l u W h.lss HI.out.2.2.txs (xys_of HI.out.2.2)
  rw [hk] at this
  exact this
 go_wp2_with fail
 refine (HC2.out _ HB.out.2.2.2).mono ?_
 rintro e w3 ⟨rfl,hb3⟩
 have HN:Hid (Bk w3 qb #[.int .i64 zw,.int .i64 zh] 23∧Bk w3 zb #[.int .i64 0,.int .i64 0] 23∧Below w.heap.size w w3∧OwS (w.heap.size+1) w3 u l):=⟨HB.out.1.below hb3,HB.out.2.1.below hb3,HB.out.2.2.1.trans (hb3.mono HB.out.2.2.1.size),row_below HB.out.2.2.2 hb3⟩
 clear hb3 HB HC2
 go_wp2_with (refine R4.wp_region_lit 3 0 3 (fun _ _=>undef) (fun _=>.cells #[] 0) [] (by kernel_rfl) (by kernel_rfl) rfl (fun k hk=>absurd hk (by omega)) rfl ?_)
 apply Exists.intro
 refine ⟨fun bs ne=>?_,fun i h1 h2=>absurd h2 (by omega),?_⟩
 ·have x0:=fun tt:Gb w3 bs=>(Bk.at2 (HN.out.1.below tt.below)).1
  have x1:=fun tt:Gb w3 bs=>(Bk.at2 (HN.out.1.below tt.below)).2
  simp only [List.take_succ_cons,List.take_zero]
  repeat (go_big_quiet_step (fail))
  exact wpQuiet_nil rfl
 ·intro bl wx hbl _ _
  have HX:Hid (Below w3.heap.size w3 wx):=hbl
  simp only [R4.layL]
  clear hbl
  have z0:=(Bk.at2 (HN.out.2.1.below HX.out)).1
  have z1:=(Bk.at2 (HN.out.2.1.below HX.out)).2
  have g0:=Bk.frozen (HN.out.2.1.below HX.out) 0
  have g1:=Bk.frozen (HN.out.2.1.below HX.out) 1
  have HF:Hid (∀ W,W=(wx.setCell ⟨zb,0,none⟩ (.int .i64 zw)).setCell ⟨zb,1,none⟩ (.int .i64 zh)→Bk W zb #[.int .i64 zw,.int .i64 zh] 23∧Below w.heap.size w W∧OwS w.heap.size W u l):=fun W hW=>by
   have k1:Kp2 zb zb wx (wx.setCell ⟨zb,0,none⟩ (.int .i64 zw)):=Kp2.put _ _ _ _ _
   have k2:Kp2 zb zb (wx.setCell ⟨zb,0,none⟩ (.int .i64 zw)) W:=by rw [hW];exact Kp2.put _ _ _ _ _
   have k3:=k1.trans k2
   have hz:=HZ.out
   have bx:=HN.out.2.2.1.trans (HX.out.mono HN.out.2.2.1.size)
   have p1:=Bk.put (HN.out.2.1.below HX.out) 0 (.int .i64 zw)
   have p2:=Bk.put p1 1 (.int .i64 zh)
   have o1:=row_below HN.out.2.2.2 HX.out
   have o2:OwS (w.heap.size+1) W u l:=own_kp o1 k3 (fun g hg=>⟨fun e=>by have:=(row_lt o1 g hg).1;omega,fun e=>by have:=(row_lt o1 g hg).1;omega⟩)
   exact ⟨by rw [hW];exact p2,bx.trans (k3.below bx.size (by omega) (by omega)),own_lo o2 (by omega)⟩
  clear HX HN
  refine wpAny_one 3 (by kernel_rfl) rfl ?_
  intro K hK
  go_simp
  refine hK _ _ ?_
  clear hK K
  refine wpAny_one 4 (by kernel_rfl) rfl ?_
  intro K hK
  go_simp
  refine hK _ _ ?_
  clear hK K
  refine wpAny_one 5 (by kernel_rfl) rfl ?_
  intro K hK
  go_simp
  refine hK _ _ ?_
  clear hK K
  refine wpAny_done (by kernel_rfl) ?_ _
  go_wp2_with fail
  obtain ⟨W4,hW4⟩:∃ W4,W4=(wx.setCell ⟨zb,0,none⟩ (.int .i64 zw)).setCell ⟨zb,1,none⟩ (.int .i64 zh):=⟨_,rfl⟩
  rw [← hW4]
  have HF4:=show Hid _ from HF.out _ hW4
  have hld:(loadVar 23 ⟨zb,0,none⟩).run Tryz.prog W4 = .ok (.agg #[.int .i64 zw,.int .i64 zh]) W4:=run_loadVar_row W4 zb 23 23 #[.int .i64 zw,.int .i64 zh] (0,0) _ HF4.out.1 Tryz.underlying23 rfl size_siz
  refine bodyPost_ret (v:=.tuple #[u,.agg #[.int .i64 zw,.int .i64 zh],.int .i64 0,.int .i64 0]) ?_ rfl (rdq_some HE.out.1 HE.out.2.1 HE.out.2.2.1 HE.out.2.2.2 rfl HF4.out.2.2 HF4.out.2.1)
  simp [results,Tryz.results13,asAddr,hld]
theorem vread_any (s:ByteArray) (w:World) (hE:EnR w.heap.size w) (hT:EtI w):Calls Tryz.prog 13 #[.string s] w fun e w'=>RdQ s w e w':=by
 by_cases hs:65536<s.size
 ·exact read_big s w hs
 rcases hr:vsR s with q | ⟨l,zw,zh⟩
 ·exact read_wrong s q w (by omega) hE hT hr
 ·cases hz:sizB zw zh with
  | false=>exact read_size s l zw zh w (by omega) hE hr hz
  | true =>
   by_cases hk:chkS l=0
   ·exact read_good s l zw zh w (by omega) hE hr hz hk
   ·exact read_list s l zw zh w (by omega) hE hr hz hk
end Go.Proofs.YtapachlhdgehjaaGreatDoor

/- Package vector: Screen, over what is asked of drawFrame. -/
namespace Go.Proofs.YtapachlhdgehjaaGreatDoor
open Go.RowKit
theorem bk_lsc {w:World} {g:Nat} (L:List Ce) (h:Bk w g (flatC L).toArray 65):LsC w (.slice (some ⟨g,0,none⟩) L.length L.length) L:=by
 refine ⟨_,_,rfl,Nat.le_refl _,fun _=>⟨g,0,rfl,h.lt,fun i hi=>?_⟩⟩
 rw [ceat_iff]
 intro j hj
 rw [Nat.zero_add,Bk.cell h,← flatC_at L i hi j hj]
 simp
theorem blk_len (c:Co) (n:Nat):(blkC c n).length=n:=by simp [blkC]
theorem blk_ok (c:Co) (n:Nat):okCs (blkC c n)=true:=by
 unfold okCs blkC
 rw [List.all_eq_true]
 intro x hx
 rw [List.eq_of_mem_replicate hx]
 show (vldR 32&&(if width 32=1 then !false && !false else if width 32=2 then false != false else false))=true
 decide +kernel
theorem blk_wf {c:Co} (hc:c.ok) (n:Nat):WfC (blkC c n):=fun x hx=>by
 rw [List.eq_of_mem_replicate hx]
 exact ⟨coZ_ok,hc⟩
theorem nonil_some {g:Nat} {n m:Nat}:NoNil (.slice (some ⟨g,0,none⟩) n m):=fun c h=>by cases h
def drwB (a:Nat) (c:Co) (n:Nat) (l:List St):List Ce:=drwS a (blkC c n) (flaL l)
theorem drawB_any (FR:LFrm) (a b n g:Nat) (c:Co) (l:List St) (vs:Value) (w:World) (hg:Bk w g (flatC (blkC c n)).toArray 65) (hs:szB a b=true) (hn:(n:Int)=(a:Int) * b) (hv:LsS w vs l) (hl:Wfs l) (hk:chkS l=0) (hc:c.ok) (HT:∀ W,Below w.heap.size w W→TbD W) :
  Calls Tryz.prog 8 #[.agg #[.int .i64 (a:Nat),.int .i64 (b:Nat),.slice (some ⟨g,0,none⟩) n n],vs] w fun e w'=>∃ u,e = .returned (.tuple #[.agg #[.int .i64 (a:Nat),.int .i64 (b:Nat),u],.int .i64 0])∧Hid (OwC w.heap.size w' u (drwB a c n l)∧Below w.heap.size w w'):=by
 have h1:=bk_lsc (blkC c n) hg
 rw [blk_len] at h1
 exact dDraw_ok FR a b (blkC c n) _ l vs w h1 nonil_some hs (by rw [blk_len];exact hn) (blk_ok c n) hv hl.txs (xys_of hl) hk (blk_wf hc n) (fun s hs=>⟨(hl s hs).2.2.1,(hl s hs).2.2.2.1⟩) (HT w (Below.refl _ _)).1 HT
set_option maxRecDepth 20000 in
set_option maxHeartbeats 8000000 in
theorem vscreen_any (FR:LFrm) (t:ByteArray) (l:List St) (a b n:Nat) (c:Co) (w:World) (hE:EnR w.heap.size w∧EtI w) (HT:∀ W,Below w.heap.size w W→TbD W)
  (h0:rdE t=0) (h1:rdL t=l) (h2:rdW t=a) (h3:rdH t=b) (h4:rdA t=0) (hs:szB a b=true) (hn:(n:Int)=(a:Int) * b) (hl:Wfs l) (hk:chkS l=0) (hc:c.ok) :
  Calls Tryz.prog 16 #[.string t,(Value.agg #[.int .u8 c.r,.int .u8 c.g,.int .u8 c.b,.int .u8 c.a])] w fun e w'=>∃ u,e = .returned (.tuple #[.agg #[.int .i64 (a:Nat),.int .i64 (b:Nat),u],.int .i64 0,.int .i64 0])∧OwC w.heap.size w' u (drwB a c n l)∧Below w.heap.size w w':=by
 obtain ⟨zb,hzb⟩:∃ zb,zb=w.heap.size+1:=⟨_,rfl⟩
 have HZ:Hid (zb=w.heap.size+1):=hzb
 have HR:Hid (∀ W,Below w.heap.size w W→Calls Tryz.prog 13 #[.string t] W fun e w'=>∃ u,e = .returned (.tuple #[u,.agg #[.int .i64 (a:Nat),.int .i64 (b:Nat)],.int .i64 0,.int .i64 0])∧OwS W.heap.size w' u l∧Below W.heap.size W w'):=fun W hb=>by
  have q:=vread_any t W ((hE.1.on hb).mono hb.size) (hE.2.below hb)
  unfold RdQ at q
  rw [h0,h1,h2,h3,h4] at q
  exact q
 have HB:Hid (∀ W,Calls Tryz.prog 17 #[.agg #[.int .i64 (a:Nat),.int .i64 (b:Nat)],(Value.agg #[.int .u8 c.r,.int .u8 c.g,.int .u8 c.b,.int .u8 c.a])] W fun e w'=>∃ g,e = .returned (.tuple #[.agg #[.int .i64 (a:Nat),.int .i64 (b:Nat),.slice (some ⟨g,0,none⟩) n n],.int .i64 0])∧W.heap.size≤g∧Bk w' g (flatC (blkC c n)).toArray 65∧Below W.heap.size W w'):=fun W=>blank_ok a b c n W hs hn
 have HD:Hid (∀ W g vs,Below w.heap.size w W→Bk W g (flatC (blkC c n)).toArray 65→LsS W vs l→Calls Tryz.prog 8 #[.agg #[.int .i64 (a:Nat),.int .i64 (b:Nat),.slice (some ⟨g,0,none⟩) n n],vs] W fun e w'=>∃ u,e = .returned (.tuple #[.agg #[.int .i64 (a:Nat),.int .i64 (b:Nat),u],.int .i64 0])∧Hid (OwC W.heap.size w' u (drwB a c n l)∧Below W.heap.size W w')):=fun W g vs hb h h'=>drawB_any FR a b n g c l vs W h hs hn h' hl hk hc (fun W' hb'=>HT W' (hb.trans (hb'.mono hb.size)))
 have H0:Hid (∀ W,W=(w.alloc (.cells #[.int .u8 c.r,.int .u8 c.g,.int .u8 c.b,.int .u8 c.a] 38)).alloc (.cells #[.int .i64 0,.int .i64 0,.slice none 0 0] 26)→Bk W w.heap.size #[.int .u8 c.r,.int .u8 c.g,.int .u8 c.b,.int .u8 c.a] 38∧Bk W zb #[.int .i64 0,.int .i64 0,.slice none 0 0] 26∧Below w.heap.size w W):=fun W hW=>by
  have k1:=Bk.new w #[.int .u8 c.r,.int .u8 c.g,.int .u8 c.b,.int .u8 c.a] 38
  have k2:=Bk.new (w.alloc (.cells #[.int .u8 c.r,.int .u8 c.g,.int .u8 c.b,.int .u8 c.a] 38)) #[.int .i64 0,.int .i64 0,.slice none 0 0] 26
  simp only [World.size_alloc] at k2
  rw [hW,hzb]
  exact ⟨Bk.alk k1 _,k2,((Below.refl _ w).alloc (Nat.le_refl _) _).alloc (by simp) _⟩
 clear hE HT h0 h1 h2 h3 h4 hs hn hl hk hc FR
 go_enter Tryz.func16,Tryz.ntmps16
 go_wp2_with fail
 obtain ⟨W0,hW0⟩:∃ W0,W0=(w.alloc (.cells #[.int .u8 c.r,.int .u8 c.g,.int .u8 c.b,.int .u8 c.a] 38)).alloc (.cells #[.int .i64 0,.int .i64 0,.slice none 0 0] 26):=⟨_,rfl⟩
 have H1:=show Hid _ from H0.out W0 hW0
 rw [← hW0,← hzb]
 clear hW0 H0 hzb
 refine (HR.out _ H1.out.2.2).mono ?_
 rintro e w1 ⟨u,rfl,hu,hb1⟩
 obtain ⟨sb,hsb⟩:∃ sb,sb=w1.heap.size:=⟨_,rfl⟩
 have H2:Hid (∀ W,W=w1.alloc (.cells #[.int .i64 (a:Nat),.int .i64 (b:Nat)] 23)→Bk W w.heap.size #[.int .u8 c.r,.int .u8 c.g,.int .u8 c.b,.int .u8 c.a] 38∧Bk W zb #[.int .i64 0,.int .i64 0,.slice none 0 0] 26∧Below w.heap.size w W∧LsS W u l∧Bk W sb #[.int .i64 (a:Nat),.int .i64 (b:Nat)] 23):=fun W hW=>by
  have b1:Below w1.heap.size w1 W:=by rw [hW];exact (Below.refl _ w1).alloc (Nat.le_refl _) _
  have bb:=H1.out.2.2.trans (hb1.mono H1.out.2.2.size)
  exact ⟨(H1.out.1.below hb1).below b1,(H1.out.2.1.below hb1).below b1,bb.trans (b1.mono bb.size),OwS.lss (row_below hu b1:OwS W0.heap.size W u l),by rw [hW,hsb];exact Bk.new _ _ _⟩
 clear hu hb1 H1 HR
 obtain ⟨W1,hW1⟩:∃ W1,W1=w1.alloc (.cells #[.int .i64 (a:Nat),.int .i64 (b:Nat)] 23):=⟨_,rfl⟩
 have H3:=show Hid _ from H2.out W1 hW1
 have m0:=Bk.cell H3.out.1 0
 have m1:=Bk.cell H3.out.1 1
 have m2:=Bk.cell H3.out.1 2
 have m3:=Bk.cell H3.out.1 3
 simp only [List.getElem?_toArray,List.getElem?_cons_zero,List.getElem?_cons_succ] at m0 m1 m2 m3
 rw [hW1] at m0 m1 m2 m3
 go_wp2_with fail
 rw [← hW1,← hsb]
 clear hsb hW1 m0 m1 m2 m3 H2
 refine (HB.out _).mono ?_
 rintro e w2 ⟨g,rfl,hgl,hg,hb2⟩
 have H4:Hid (∀ o,Bk (w2.alloc o) zb #[.int .i64 0,.int .i64 0,.slice none 0 0] 26∧Below w.heap.size w (w2.alloc o)∧LsS (w2.alloc o) u l∧Bk (w2.alloc o) g (flatC (blkC c n)).toArray 65):=fun o=>by
  have b1:Below w2.heap.size w2 (w2.alloc o):=(Below.refl _ w2).alloc (Nat.le_refl _) _
  have bb:=H3.out.2.2.1.trans (hb2.mono H3.out.2.2.1.size)
  exact ⟨(H3.out.2.1.below hb2).below b1,bb.trans (b1.mono bb.size),(H3.out.2.2.2.1.below hb2).below b1,hg.below b1⟩
 clear hgl hg hb2 H3 HB
 go_wp2_with fail
 refine (HD.out _ g _ (H4.out _).2.1 (H4.out _).2.2.2 (H4.out _).2.2.1).mono ?_
 rintro e w3 ⟨u2,rfl,h5⟩
 obtain ⟨oa2,cap2,hu2,_,_⟩:=row_val h5.out.1
 obtain ⟨m2,hm2⟩:∃ m2,m2=(drwB a c n l).length:=⟨_,rfl⟩
 rw [← hm2] at hu2
 clear hm2
 have H5:Hid (∀ o,Bk (w3.alloc o) zb #[.int .i64 0,.int .i64 0,.slice none 0 0] 26∧Below w.heap.size w (w3.alloc o)∧OwC (zb+1) (w3.alloc o) u2 (drwB a c n l)∧zb<(w3.alloc o).heap.size):=fun o=>by
  obtain ⟨p1,p2⟩:=h5.out
  have b1:Below w3.heap.size w3 (w3.alloc o):=(Below.refl _ w3).alloc (Nat.le_refl _) _
  have h4:=H4.out (.cells #[.int .i64 (a:Nat),.int .i64 (b:Nat),.slice (some ⟨g,0,none⟩) n n] 26)
  have bb:=h4.2.1.trans (p2.mono h4.2.1.size)
  have k:=(h4.1.below p2).below b1
  exact ⟨k,bb.trans (b1.mono bb.size),row_weaken (row_below p1 b1) (Nat.succ_le_of_lt h4.1.lt),k.lt⟩
 clear h5 H4 HD
 subst hu2
 go_wp2_with (refine wpList_store_row rfl 26 (.tmp 4) (.tmp 41) rfl zb #[.int .i64 (a:Nat),.int .i64 (b:Nat),.slice oa2 m2 cap2] rfl rfl 26 _ (H5.out _).1 (by kernel_rfl) rfl (by simp [Value.oneCell']) ?_)
 obtain ⟨W3,hW3⟩:∃ W3,W3=(w3.alloc (.cells #[.int .i64 (a:Nat),.int .i64 (b:Nat),.slice oa2 m2 cap2] 26)).setRow zb #[.int .i64 (a:Nat),.int .i64 (b:Nat),.slice oa2 m2 cap2]:=⟨_,rfl⟩
 rw [← hW3]
 have h6:=H5.out (.cells #[.int .i64 (a:Nat),.int .i64 (b:Nat),.slice oa2 m2 cap2] 26)
 have hB3:Bk W3 zb #[.int .i64 (a:Nat),.int .i64 (b:Nat),.slice oa2 m2 cap2] 26:=by rw [hW3];exact setRow_heap _ _ _ _ _ _ h6.1
 have hld:(loadVar 26 ⟨zb,0,none⟩).run Tryz.prog W3 = .ok (.agg #[.int .i64 (a:Nat),.int .i64 (b:Nat),.slice oa2 m2 cap2]) W3:=run_loadVar_row W3 zb 26 26 #[.int .i64 (a:Nat),.int .i64 (b:Nat),.slice oa2 m2 cap2] (0,0) _ hB3 Tryz.underlying26 rfl (by kernel_rfl)
 have hK3:Kp2 zb zb (w3.alloc (.cells #[.int .i64 (a:Nat),.int .i64 (b:Nat),.slice oa2 m2 cap2] 26)) W3:=by rw [hW3];exact Kp2.row _ _ _ _
 have ho:OwC w.heap.size W3 (.slice oa2 m2 cap2) (drwB a c n l):=by
  obtain ⟨hl,h0 | ⟨g3,cap,cur,e,q1,q2,q3⟩⟩:=h6.2.2.1
  ·exact ⟨hl,.inl h0⟩
  ·have hz:=HZ.out
   exact ⟨hl,.inr ⟨g3,cap,cur,e,by omega,(hK3.block g3 (Array.getElem?_eq_some_iff.1 q2).1 (by omega) (by omega)).trans q2,q3⟩⟩
 refine bodyPost_ret (v:=.tuple #[.agg #[.int .i64 (a:Nat),.int .i64 (b:Nat),.slice oa2 m2 cap2],.int .i64 0,.int .i64 0]) ?_ rfl ⟨_,rfl,ho,h6.2.1.trans (hK3.below h6.2.1.size (by have:=HZ.out;omega) (by have:=HZ.out;omega))⟩
 simp [results,Tryz.results16,asAddr,hld]
end Go.Proofs.YtapachlhdgehjaaGreatDoor
