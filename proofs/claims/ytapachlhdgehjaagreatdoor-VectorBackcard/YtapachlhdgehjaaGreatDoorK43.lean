/-
  Texts of this claim, one behind the other: what each is about stands ahead of it.
-/
import Derived.Test.YtapachlhdgehjaaGreatDoorK42
import Derived.Test.YtapachlhdgehjaaGreatDoorK32
import Derived.Test.YtapachlhdgehjaaGreatDoorK30
import Derived.Test.YtapachlhdgehjaaGreatDoorK41
import Derived.Lib.AtoiAllCases
import Derived.Lib.ItoaNum
/- The statements' own alive, of stage 16. -/
namespace Go.Proofs.YtapachlhdgehjaaGreatDoor
open Go.RowKit
def fA:St:=⟨1,⟨-1,0,4,4⟩,⟨255,0,0,255⟩,⟨0,0,0,0⟩,⟨#[]⟩,2⟩
def fA0:St:=⟨1,⟨-1,0,4,4⟩,⟨255,0,0,255⟩,⟨0,0,0,0⟩,⟨#[]⟩,0⟩
def tA:ByteArray:=⟨#[60,115,104,97,112,101,115,32,119,61,34,56,34,32,104,61,34,51,34,62,10,60,102,105,108,108,32,120,61,34,45,49,34,32,121,61,34,48,34,32,119,61,34,52,34,32,104,61,34,52,34,32,99,61,34,35,102,48,48,34,32,110,61,34,50,34,47,62,10,60,47,115,104,97,112,101,115,62,10]⟩
theorem tA_text:(⟨(texT [fA] 8 3).toArray⟩:ByteArray)=tA:=by
 have:texT [fA] 8 3=tA.data.toList:=by decide +kernel
 rw [this]
theorem tA_err:texE [fA] 8 3=0:=by decide +kernel
theorem tA_read:vsR tA = .inr ([fA],8,3):=by kernel_rfl
theorem tA_rd:rdE tA=0∧rdA tA=0∧rdL tA=[fA]∧rdW tA=8∧rdH tA=3:=by
 have h0:¬ 65536<tA.size:=by decide
 have h1:chkS [fA]=0:=by decide +kernel
 have h2:sizB 8 3=true:=by decide
 have e:rdE tA=0:=by unfold rdE;rw [if_neg h0,tA_read];simp [h1,h2]
 refine ⟨e,?_,?_,?_,?_⟩
 ·unfold rdA;rw [if_neg h0,tA_read]
 ·unfold rdL;rw [if_pos e,tA_read]
 ·unfold rdW;rw [if_pos e,tA_read]
 ·unfold rdH;rw [if_pos e,tA_read]
theorem fA_wf:Wfs [fA]:=fun s hs=>by
 obtain rfl:s=fA:=by simpa using hs
 refine ⟨⟨?_,?_⟩,⟨?_,?_,?_,?_⟩,?_,?_,?_,?_⟩ <;> first | (simp [fA,Co.ok,By,I64];done) | decide
theorem lss_one (w:World) (s:St) (t:TypeId):LsS (w.alloc (.cells (#[.int .u8 s.k,.int .i64 s.r.x,.int .i64 s.r.y,.int .i64 s.r.w,.int .i64 s.r.h,.int .u8 s.c.r,.int .u8 s.c.g,.int .u8 s.c.b,.int .u8 s.c.a,.int .u8 s.b.r,.int .u8 s.b.g,.int .u8 s.b.b,.int .u8 s.b.a,.string s.t,.int .i64 s.n]) t)) (.slice (some ⟨w.heap.size,0,none⟩) 1 1) [s]:=by
 refine ⟨_,_,rfl,Nat.le_refl _,fun _=>⟨w.heap.size,0,rfl,by simp,fun i hi=>?_⟩⟩
 have hi0:i=0:=by simpa using hi
 subst hi0
 exact bk15 (Bk.new w (#[.int .u8 s.k,.int .i64 s.r.x,.int .i64 s.r.y,.int .i64 s.r.w,.int .i64 s.r.h,.int .u8 s.c.r,.int .u8 s.c.g,.int .u8 s.c.b,.int .u8 s.c.a,.int .u8 s.b.r,.int .u8 s.b.g,.int .u8 s.b.b,.int .u8 s.b.a,.string s.t,.int .i64 s.n]) t)
set_option maxHeartbeats 1000000 in
theorem fill16_any (w:World):Calls Tryz.prog 33 #[.int .i64 (-1),.int .i64 0,.int .i64 4,.int .i64 4] w fun e w'=>e = .returned (Value.agg #[.int .u8 fA0.k,.int .i64 fA0.r.x,.int .i64 fA0.r.y,.int .i64 fA0.r.w,.int .i64 fA0.r.h,.int .u8 fA0.c.r,.int .u8 fA0.c.g,.int .u8 fA0.c.b,.int .u8 fA0.c.a,.int .u8 fA0.b.r,.int .u8 fA0.b.g,.int .u8 fA0.b.b,.int .u8 fA0.b.a,.string fA0.t,.int .i64 fA0.n])∧Below w.heap.size w w':=by
 have B0:Hid (Below w.heap.size w (w.alloc (.cells (#[.int .u8 fA0.k,.int .i64 fA0.r.x,.int .i64 fA0.r.y,.int .i64 fA0.r.w,.int .i64 fA0.r.h,.int .u8 fA0.c.r,.int .u8 fA0.c.g,.int .u8 fA0.c.b,.int .u8 fA0.c.a,.int .u8 fA0.b.r,.int .u8 fA0.b.g,.int .u8 fA0.b.b,.int .u8 fA0.b.a,.string fA0.t,.int .i64 fA0.n]) 55))):=(Below.refl _ w).alloc (Nat.le_refl _) _
 go_enter Tryz.func33,Tryz.ntmps33
 go_wp2_with fail
 have hB:=Bk.new w (#[.int .u8 fA0.k,.int .i64 fA0.r.x,.int .i64 fA0.r.y,.int .i64 fA0.r.w,.int .i64 fA0.r.h,.int .u8 fA0.c.r,.int .u8 fA0.c.g,.int .u8 fA0.c.b,.int .u8 fA0.c.a,.int .u8 fA0.b.r,.int .u8 fA0.b.g,.int .u8 fA0.b.b,.int .u8 fA0.b.a,.string fA0.t,.int .i64 fA0.n]) 55
 have hld:(loadVar 55 ⟨w.heap.size,0,none⟩).run Tryz.prog (w.alloc (.cells (#[.int .u8 fA0.k,.int .i64 fA0.r.x,.int .i64 fA0.r.y,.int .i64 fA0.r.w,.int .i64 fA0.r.h,.int .u8 fA0.c.r,.int .u8 fA0.c.g,.int .u8 fA0.c.b,.int .u8 fA0.c.a,.int .u8 fA0.b.r,.int .u8 fA0.b.g,.int .u8 fA0.b.b,.int .u8 fA0.b.a,.string fA0.t,.int .i64 fA0.n]) 55)) = .ok (Value.agg #[.int .u8 fA0.k,.int .i64 fA0.r.x,.int .i64 fA0.r.y,.int .i64 fA0.r.w,.int .i64 fA0.r.h,.int .u8 fA0.c.r,.int .u8 fA0.c.g,.int .u8 fA0.c.b,.int .u8 fA0.c.a,.int .u8 fA0.b.r,.int .u8 fA0.b.g,.int .u8 fA0.b.b,.int .u8 fA0.b.a,.string fA0.t,.int .i64 fA0.n]) (w.alloc (.cells (#[.int .u8 fA0.k,.int .i64 fA0.r.x,.int .i64 fA0.r.y,.int .i64 fA0.r.w,.int .i64 fA0.r.h,.int .u8 fA0.c.r,.int .u8 fA0.c.g,.int .u8 fA0.c.b,.int .u8 fA0.c.a,.int .u8 fA0.b.r,.int .u8 fA0.b.g,.int .u8 fA0.b.b,.int .u8 fA0.b.a,.string fA0.t,.int .i64 fA0.n]) 55)):=run_loadVar_row _ _ 55 55 (#[.int .u8 fA0.k,.int .i64 fA0.r.x,.int .i64 fA0.r.y,.int .i64 fA0.r.w,.int .i64 fA0.r.h,.int .u8 fA0.c.r,.int .u8 fA0.c.g,.int .u8 fA0.c.b,.int .u8 fA0.c.a,.int .u8 fA0.b.r,.int .u8 fA0.b.g,.int .u8 fA0.b.b,.int .u8 fA0.b.a,.string fA0.t,.int .i64 fA0.n]) (0,0) _ hB Tryz.underlying55 rfl size_st
 refine bodyPost_ret (v:=(Value.agg #[.int .u8 fA0.k,.int .i64 fA0.r.x,.int .i64 fA0.r.y,.int .i64 fA0.r.w,.int .i64 fA0.r.h,.int .u8 fA0.c.r,.int .u8 fA0.c.g,.int .u8 fA0.c.b,.int .u8 fA0.c.a,.int .u8 fA0.b.r,.int .u8 fA0.b.g,.int .u8 fA0.b.b,.int .u8 fA0.b.a,.string fA0.t,.int .i64 fA0.n])) ?_ rfl ⟨rfl,B0.out⟩
 exact (by simpa [results,Tryz.results33,asAddr,fA0] using hld)
set_option maxRecDepth 10000 in
set_option maxHeartbeats 8000000 in
theorem alive16_any (w:World) (hE:EnR w.heap.size w) (hT:EtI w):Calls Tryz.prog 11 #[] w fun e w'=>e = .returned (.bool true)∧Below w.heap.size w w':=by
 obtain ⟨a,ha⟩:∃ a,a=fA0:=⟨_,rfl⟩
 obtain ⟨f,hf⟩:∃ f,f=fA:=⟨_,rfl⟩
 obtain ⟨T,hT0⟩:∃ T,T=tA:=⟨_,rfl⟩
 have H1:Hid (∀ W,Calls Tryz.prog 33 #[.int .i64 (-1),.int .i64 0,.int .i64 4,.int .i64 4] W fun e w'=>e = .returned (Value.agg #[.int .u8 a.k,.int .i64 a.r.x,.int .i64 a.r.y,.int .i64 a.r.w,.int .i64 a.r.h,.int .u8 a.c.r,.int .u8 a.c.g,.int .u8 a.c.b,.int .u8 a.c.a,.int .u8 a.b.r,.int .u8 a.b.g,.int .u8 a.b.b,.int .u8 a.b.a,.string a.t,.int .i64 a.n])∧Below W.heap.size W w'):=fun W=>by rw [ha];exact fill16_any W
 have H2:Hid (∀ W v,LsS W v [f]→Below w.heap.size w W→Calls Tryz.prog 12 #[v,.agg #[.int .i64 8,.int .i64 3]] W fun e w'=>e = .returned (.tuple #[.string T,.int .i64 0])∧Below W.heap.size W w'):=fun W v h hb=>by
  have q:=vtext_any [f] v 8 3 W h (by rw [hf];exact fA_wf) ⟨by decide,by decide⟩ ⟨by decide,by decide⟩ (hE.on hb).here.pw
  rw [hf,tA_text,tA_err] at q
  rw [hT0]
  exact q
 have H3:Hid (∀ W,Below w.heap.size w W→Calls Tryz.prog 13 #[.string T] W fun e w'=>∃ u,e = .returned (.tuple #[u,.agg #[.int .i64 8,.int .i64 3],.int .i64 0,.int .i64 0])∧OwS W.heap.size w' u [f]∧Below W.heap.size W w'):=fun W hb=>by
  have q:=vread_any T W ((hE.on hb).mono hb.size) (hT.below hb)
  unfold RdQ at q
  rw [hT0,tA_rd.1,tA_rd.2.1,tA_rd.2.2.1,tA_rd.2.2.2.1,tA_rd.2.2.2.2] at q
  rw [hT0,hf]
  exact q
 have HA:Hid (a=fA0∧f=fA∧T=tA):=⟨ha,hf,hT0⟩
 have HS:Hid ((T.toList==[60,115,104,97,112,101,115,32,119,61,34,56,34,32,104,61,34,51,34,62,10,60,102,105,108,108,32,120,61,34,45,49,34,32,121,61,34,48,34,32,119,61,34,52,34,32,104,61,34,52,34,32,99,61,34,35,102,48,48,34,32,110,61,34,50,34,47,62,10,60,47,115,104,97,112,101,115,62,10])=true):=by
  unfold Hid
  rw [hT0]
  decide +kernel
 clear ha hf hT0 hE hT
 go_enter Tryz.func11,Tryz.ntmps11
 go_wp2_with fail
 refine (H1.out _).mono ?_
 rintro e w1 ⟨rfl,hb1⟩
 obtain ⟨g,hg⟩:∃ g,g=w1.heap.size:=⟨_,rfl⟩
 have hcl:(#[.int .u8 a.k,.int .i64 a.r.x,.int .i64 a.r.y,.int .i64 a.r.w,.int .i64 a.r.h,.int .u8 a.c.r,.int .u8 a.c.g,.int .u8 a.c.b,.int .u8 a.c.a,.int .u8 a.b.r,.int .u8 a.b.g,.int .u8 a.b.b,.int .u8 a.b.a,.string a.t,.int .i64 2]:Array Value)=(#[.int .u8 f.k,.int .i64 f.r.x,.int .i64 f.r.y,.int .i64 f.r.w,.int .i64 f.r.h,.int .u8 f.c.r,.int .u8 f.c.g,.int .u8 f.c.b,.int .u8 f.c.a,.int .u8 f.b.r,.int .u8 f.b.g,.int .u8 f.b.b,.int .u8 f.b.a,.string f.t,.int .i64 f.n]):=by rw [HA.out.1,HA.out.2.1];rfl
 have HB:Hid (∀ W,W=w1.alloc (.cells (#[.int .u8 f.k,.int .i64 f.r.x,.int .i64 f.r.y,.int .i64 f.r.w,.int .i64 f.r.h,.int .u8 f.c.r,.int .u8 f.c.g,.int .u8 f.c.b,.int .u8 f.c.a,.int .u8 f.b.r,.int .u8 f.b.g,.int .u8 f.b.b,.int .u8 f.b.a,.string f.t,.int .i64 f.n]) 55)→Bk W g (#[.int .u8 f.k,.int .i64 f.r.x,.int .i64 f.r.y,.int .i64 f.r.w,.int .i64 f.r.h,.int .u8 f.c.r,.int .u8 f.c.g,.int .u8 f.c.b,.int .u8 f.c.a,.int .u8 f.b.r,.int .u8 f.b.g,.int .u8 f.b.b,.int .u8 f.b.a,.string f.t,.int .i64 f.n]) 55∧Below w.heap.size w W):=fun W hW=>by
  have b1:Below w1.heap.size w1 (w1.alloc (.cells (#[.int .u8 f.k,.int .i64 f.r.x,.int .i64 f.r.y,.int .i64 f.r.w,.int .i64 f.r.h,.int .u8 f.c.r,.int .u8 f.c.g,.int .u8 f.c.b,.int .u8 f.c.a,.int .u8 f.b.r,.int .u8 f.b.g,.int .u8 f.b.b,.int .u8 f.b.a,.string f.t,.int .i64 f.n]) 55)):=(Below.refl _ w1).alloc (Nat.le_refl _) _
  rw [hW,hg]
  exact ⟨Bk.new _ _ _,hb1.trans (b1.mono hb1.size)⟩
 clear hb1 H1
 go_wp2_with fail
 clear hcl
 obtain ⟨W2,hW2⟩:∃ W2,W2=w1.alloc (.cells (#[.int .u8 f.k,.int .i64 f.r.x,.int .i64 f.r.y,.int .i64 f.r.w,.int .i64 f.r.h,.int .u8 f.c.r,.int .u8 f.c.g,.int .u8 f.c.b,.int .u8 f.c.a,.int .u8 f.b.r,.int .u8 f.b.g,.int .u8 f.b.b,.int .u8 f.b.a,.string f.t,.int .i64 f.n]) 55):=⟨_,rfl⟩
 have HB2:=show Hid _ from HB.out W2 hW2
 have hs2:w1.heap.size+1=W2.heap.size:=by rw [hW2];simp
 rw [← hW2,hs2,← hg]
 clear hW2 HB hs2 hg
 have HL:Hid (LsS (W2.alloc (.cells (#[.int .u8 f.k,.int .i64 f.r.x,.int .i64 f.r.y,.int .i64 f.r.w,.int .i64 f.r.h,.int .u8 f.c.r,.int .u8 f.c.g,.int .u8 f.c.b,.int .u8 f.c.a,.int .u8 f.b.r,.int .u8 f.b.g,.int .u8 f.b.b,.int .u8 f.b.a,.string f.t,.int .i64 f.n]) 55)) (.slice (some ⟨W2.heap.size,0,none⟩) 1 1) [f]):=lss_one W2 f _
 have HB3:Hid (Bk (W2.alloc (.cells (#[.int .u8 f.k,.int .i64 f.r.x,.int .i64 f.r.y,.int .i64 f.r.w,.int .i64 f.r.h,.int .u8 f.c.r,.int .u8 f.c.g,.int .u8 f.c.b,.int .u8 f.c.a,.int .u8 f.b.r,.int .u8 f.b.g,.int .u8 f.b.b,.int .u8 f.b.a,.string f.t,.int .i64 f.n]) 55)) g (#[.int .u8 f.k,.int .i64 f.r.x,.int .i64 f.r.y,.int .i64 f.r.w,.int .i64 f.r.h,.int .u8 f.c.r,.int .u8 f.c.g,.int .u8 f.c.b,.int .u8 f.c.a,.int .u8 f.b.r,.int .u8 f.b.g,.int .u8 f.b.b,.int .u8 f.b.a,.string f.t,.int .i64 f.n]) 55∧Below w.heap.size w (W2.alloc (.cells (#[.int .u8 f.k,.int .i64 f.r.x,.int .i64 f.r.y,.int .i64 f.r.w,.int .i64 f.r.h,.int .u8 f.c.r,.int .u8 f.c.g,.int .u8 f.c.b,.int .u8 f.c.a,.int .u8 f.b.r,.int .u8 f.b.g,.int .u8 f.b.b,.int .u8 f.b.a,.string f.t,.int .i64 f.n]) 55))):=by
  have b1:Below W2.heap.size W2 (W2.alloc (.cells (#[.int .u8 f.k,.int .i64 f.r.x,.int .i64 f.r.y,.int .i64 f.r.w,.int .i64 f.r.h,.int .u8 f.c.r,.int .u8 f.c.g,.int .u8 f.c.b,.int .u8 f.c.a,.int .u8 f.b.r,.int .u8 f.b.g,.int .u8 f.b.b,.int .u8 f.b.a,.string f.t,.int .i64 f.n]) 55)):=(Below.refl _ W2).alloc (Nat.le_refl _) _
  exact ⟨HB2.out.1.below b1,HB2.out.2.trans (b1.mono HB2.out.2.size)⟩
 clear HB2
 refine (H2.out _ _ HL.out HB3.out.2).mono ?_
 rintro e w3 ⟨rfl,hb3⟩
 have HB4:Hid (Bk w3 g (#[.int .u8 f.k,.int .i64 f.r.x,.int .i64 f.r.y,.int .i64 f.r.w,.int .i64 f.r.h,.int .u8 f.c.r,.int .u8 f.c.g,.int .u8 f.c.b,.int .u8 f.c.a,.int .u8 f.b.r,.int .u8 f.b.g,.int .u8 f.b.b,.int .u8 f.b.a,.string f.t,.int .i64 f.n]) 55∧Below w.heap.size w w3):=⟨HB3.out.1.below hb3,HB3.out.2.trans (hb3.mono HB3.out.2.size)⟩
 clear hb3 HB3 HL H2
 go_wp2_with fail
 refine (H3.out _ HB4.out.2).mono ?_
 rintro e w4 ⟨u,rfl,hu,hb4⟩
 obtain ⟨qb,hqb⟩:∃ qb,qb=w4.heap.size:=⟨_,rfl⟩
 have HB5:Hid (Bk (w4.alloc (.cells #[.int .i64 8,.int .i64 3] 23)) g (#[.int .u8 f.k,.int .i64 f.r.x,.int .i64 f.r.y,.int .i64 f.r.w,.int .i64 f.r.h,.int .u8 f.c.r,.int .u8 f.c.g,.int .u8 f.c.b,.int .u8 f.c.a,.int .u8 f.b.r,.int .u8 f.b.g,.int .u8 f.b.b,.int .u8 f.b.a,.string f.t,.int .i64 f.n]) 55∧Below w.heap.size w (w4.alloc (.cells #[.int .i64 8,.int .i64 3] 23))∧OwS 0 (w4.alloc (.cells #[.int .i64 8,.int .i64 3] 23)) u [f]∧Bk (w4.alloc (.cells #[.int .i64 8,.int .i64 3] 23)) qb #[.int .i64 8,.int .i64 3] 23):=by
  have b1:Below w4.heap.size w4 (w4.alloc (.cells #[.int .i64 8,.int .i64 3] 23)):=(Below.refl _ w4).alloc (Nat.le_refl _) _
  have bb:=HB4.out.2.trans (hb4.mono HB4.out.2.size)
  exact ⟨(HB4.out.1.below hb4).below b1,bb.trans (b1.mono bb.size),own_lo (row_below hu b1) (Nat.zero_le _),by rw [hqb];exact Bk.new _ _ _⟩
 clear hu hb4 HB4 H3
 go_wp2_with fail
 rw [← hqb]
 clear hqb
 generalize hW5:w4.alloc (.cells #[.int .i64 8,.int .i64 3] 23)=W5 at *
 clear hW5
 obtain ⟨gu,cu,rfl,hcu,hgu⟩:∃ gu cu,u = .slice (some ⟨gu,0,none⟩) 1 cu∧1≤cu∧Hid (∀ t:Gw W5,StAt t.wd gu 0 f):=by
  obtain ⟨_,⟨_,h0⟩ | ⟨gg,cap,cur,rfl,h1,h2,h3,h4,h5,h6⟩⟩:=id HB5.out.2.2.1
  ·cases h0
  ·refine ⟨gg,cap,rfl,h3,fun t=>?_⟩
   have q:=OwS.lss (row_below HB5.out.2.2.1 t.below:OwS 0 t.wd (.slice (some ⟨gg,0,none⟩) 1 cap) [f])
   obtain ⟨oa,cp,he,_,hx⟩:=q
   obtain ⟨gz,oz,rfl,_,hh⟩:=hx Nat.one_pos
   injection he with e1 e2 e3
   injection e1 with e1
   injection e1 with e1 e4
   have:=hh 0 Nat.one_pos
   subst e1
   obtain rfl:oz=0:=by omega
   exact this
 have ne:=gw_ne HB5.out.2.1
 have z0:=fun tt:Gw W5=>(Bk.at2 (HB5.out.2.2.2.below tt.below)).1
 have z1:=fun tt:Gw W5=>(Bk.at2 (HB5.out.2.2.2.below tt.below)).2
 have qf:=fun tt:Gw W5=>bk15 (HB5.out.1.below tt.below)
 have qu:=fun tt:Gw W5=>hgu.out tt
 have x0:=fun tt:Gw W5=>(qf tt).1
 have x1:=fun tt:Gw W5=>(qf tt).2.1
 have x2:=fun tt:Gw W5=>(qf tt).2.2.1
 have x3:=fun tt:Gw W5=>(qf tt).2.2.2.1
 have x4:=fun tt:Gw W5=>(qf tt).2.2.2.2.1
 have x5:=fun tt:Gw W5=>(qf tt).2.2.2.2.2.1
 have x6:=fun tt:Gw W5=>(qf tt).2.2.2.2.2.2.1
 have x7:=fun tt:Gw W5=>(qf tt).2.2.2.2.2.2.2.1
 have x8:=fun tt:Gw W5=>(qf tt).2.2.2.2.2.2.2.2.1
 have x9:=fun tt:Gw W5=>(qf tt).2.2.2.2.2.2.2.2.2.1
 have x10:=fun tt:Gw W5=>(qf tt).2.2.2.2.2.2.2.2.2.2.1
 have x11:=fun tt:Gw W5=>(qf tt).2.2.2.2.2.2.2.2.2.2.2.1
 have x12:=fun tt:Gw W5=>(qf tt).2.2.2.2.2.2.2.2.2.2.2.2.1
 have x13:=fun tt:Gw W5=>(qf tt).2.2.2.2.2.2.2.2.2.2.2.2.2.1
 have x14:=fun tt:Gw W5=>(qf tt).2.2.2.2.2.2.2.2.2.2.2.2.2.2
 have y0:=fun tt:Gw W5=>(qu tt).1
 have y1:=fun tt:Gw W5=>(qu tt).2.1
 have y2:=fun tt:Gw W5=>(qu tt).2.2.1
 have y3:=fun tt:Gw W5=>(qu tt).2.2.2.1
 have y4:=fun tt:Gw W5=>(qu tt).2.2.2.2.1
 have y5:=fun tt:Gw W5=>(qu tt).2.2.2.2.2.1
 have y6:=fun tt:Gw W5=>(qu tt).2.2.2.2.2.2.1
 have y7:=fun tt:Gw W5=>(qu tt).2.2.2.2.2.2.2.1
 have y8:=fun tt:Gw W5=>(qu tt).2.2.2.2.2.2.2.2.1
 have y9:=fun tt:Gw W5=>(qu tt).2.2.2.2.2.2.2.2.2.1
 have y10:=fun tt:Gw W5=>(qu tt).2.2.2.2.2.2.2.2.2.2.1
 have y11:=fun tt:Gw W5=>(qu tt).2.2.2.2.2.2.2.2.2.2.2.1
 have y12:=fun tt:Gw W5=>(qu tt).2.2.2.2.2.2.2.2.2.2.2.2.1
 have y13:=fun tt:Gw W5=>(qu tt).2.2.2.2.2.2.2.2.2.2.2.2.2.1
 have y14:=fun tt:Gw W5=>(qu tt).2.2.2.2.2.2.2.2.2.2.2.2.2.2
 simp only [Nat.zero_add] at x0 x1 x2 x3 x4 x5 x6 x7 x8 x9 x10 x11 x12 x13 x14 y0 y1 y2 y3 y4 y5 y6 y7 y8 y9 y10 y11 y12 y13 y14
 clear qf qu hgu
 have eqs:=eql_stroke f f
 rw [eqS_self] at eqs
 have HZ:Hid (∀ t:Gw W5,Below w.heap.size w t.wd):=fun t=>HB5.out.2.1.trans (t.below.mono HB5.out.2.1.size)
 have hs:=HS.out
 clear HS HA HB5
 refine wp_region_gw (by kernel_rfl) (by kernel_rfl) ?_
 repeat (go_big_quiet_step (fail))
 refine wpQuiet_nil ?_
 rintro _ ⟨tt,rfl⟩
 have HB:=HZ.out tt
 go_wp2
 go_ret
 exact ⟨rfl,HB⟩
end Go.Proofs.YtapachlhdgehjaaGreatDoor

/- A colour's text is read as the colour, in plain words. -/
namespace Go.Proofs.YtapachlhdgehjaaGreatDoor
open Go.RowKit
def sT (ns:List Nat):ByteArray:=⟨(35 :: ns.map bt).toArray⟩
theorem sT_size (ns:List Nat):(sT ns).size=ns.length+1:=by simp [sT,ByteArray.size]
theorem sT_zero (ns:List Nat) (h:0<(sT ns).size):(sT ns)[0]=35:=rfl
theorem sT_succ (ns:List Nat) (j:Nat) (hj:j<ns.length) (h:j+1<(sT ns).size):(sT ns)[j+1]=bt ns[j]:=by
 have h':j+1<(35 :: ns.map bt).toArray.size:=by simp;omega
 exact (show (sT ns)[j+1]=(35 :: ns.map bt).toArray[j+1]'h' from rfl).trans (by simp)
theorem dig_bt:∀ x:Fin 16,dig (bt x.val).toNat=(x.val:Int):=by decide +kernel
theorem six_bt:∀ x:Fin 16,six (bt x.val).toNat=true:=by decide +kernel
theorem sT_dg {ns:List Nat} (hn:∀ n∈ns,n<16) (j:Nat) (hj:j<ns.length):dg (sT ns) (j+1)=(ns[j]:Nat):=by
 have h:j+1<(sT ns).size:=by rw [sT_size];omega
 rw [dg_at h,sT_succ ns j hj h]
 exact dig_bt ⟨ns[j],hn _ (List.getElem_mem hj)⟩
theorem sT_bel {ns:List Nat} (hn:∀ n∈ns,n<16) (h8:ns.length≤8):bel (sT ns)=ns.length+1:=by
 have hz:=sT_size ns
 refine bel_is ⟨by omega,fun j hj hlt=>?_⟩ (fun h=>absurd h (by omega))
 cases j with
 | zero=>rw [sT_zero ns hj];rfl
 | succ j =>
  rw [sT_succ ns j (by omega) hj]
  unfold belB
  rw [if_neg (by omega)]
  simp only [Bool.and_eq_true,decide_eq_true_eq]
  exact ⟨by omega,six_bt ⟨ns[j],hn _ (List.getElem_mem _)⟩⟩
theorem tw_eq {x:Nat} (hx:x<256) (h:tw x=true):x=17 * (x % 16):=by
 unfold tw at h
 rw [sx_inj (by omega) (by omega)] at h
 simp only [beq_iff_eq] at h
 omega
def sxs (r g b a:Nat):List Nat :=
 if a=255∧tw r=true∧tw g=true∧tw b=true then [r % 16,g % 16,b % 16]
 else if a=255 then [r / 16,r % 16,g / 16,g % 16,b / 16,b % 16]
 else [r / 16,r % 16,g / 16,g % 16,b / 16,b % 16,a / 16,a % 16]
theorem txt_sT (c:Co):txt c=sT (sxs c.r.toNat c.g.toNat c.b.toNat c.a.toNat):=by
 unfold txt txtL sxs
 split
 ·rfl
 ·split <;> rfl
theorem sxs_lt {r g b a:Nat} (hr:r<256) (hg:g<256) (hb:b<256) (ha:a<256):(∀ n∈sxs r g b a,n<16)∧(sxs r g b a).length≤8∧(a=255→(sxs r g b a).length≤6):=by
 unfold sxs
 split
 ·refine ⟨fun n hn=>?_,by simp,fun _=>by simp⟩
  simp at hn
  omega
 ·split
  ·refine ⟨fun n hn=>?_,by simp,fun _=>by simp⟩
   simp at hn
   omega
  ·refine ⟨fun n hn=>?_,by simp,fun h=>absurd h (by assumption)⟩
   simp at hn
   omega
theorem back_text (c:Co) (hc:c.ok):okT (txt c)=true∧parC (txt c)=c∧(txt c).size≤9∧(c.a=255→(txt c).size≤7):=by
 obtain ⟨⟨r1,r2⟩,⟨g1,g2⟩,⟨b1,b2⟩,⟨a1,a2⟩⟩:=hc
 obtain ⟨r,g,b,a⟩:=c
 simp only at r1 r2 g1 g2 b1 b2 a1 a2
 obtain ⟨r,rfl⟩:=Int.eq_ofNat_of_zero_le r1
 obtain ⟨g,rfl⟩:=Int.eq_ofNat_of_zero_le g1
 obtain ⟨b,rfl⟩:=Int.eq_ofNat_of_zero_le b1
 obtain ⟨a,rfl⟩:=Int.eq_ofNat_of_zero_le a1
 rw [txt_sT]
 simp only [Int.toNat_natCast]
 obtain ⟨h1,h2,h3⟩:=sxs_lt (r:=r) (g:=g) (b:=b) (a:=a) (by omega) (by omega) (by omega) (by omega)
 have hbel:=sT_bel h1 h2
 have hz:=sT_size (sxs r g b a)
 refine ⟨?_,?_,by omega,fun h=>by have:=h3 (by omega);omega⟩
 ·rw [ok_iff]
  refine ⟨by omega,?_⟩
  rw [hbel]
  unfold sxs
  split
  ·simp
  ·split <;> simp
 ·have hd:=fun j hj=>sT_dg h1 j hj
  unfold parC
  have hlen:(sxs r g b a).length=3∨(sxs r g b a).length=6∨(sxs r g b a).length=8:=by
   unfold sxs
   split
   ·simp
   ·split <;> simp
  rw [if_pos (ok_iff.2 ⟨by omega,by omega⟩),hbel]
  by_cases ht:a=255∧tw r=true∧tw g=true∧tw b=true
  ·have e:sxs r g b a=[r % 16,g % 16,b % 16]:=by unfold sxs;rw [if_pos ht]
   rw [e] at hd ⊢
   have q0:=hd 0 (by simp)
   have q1:=hd 1 (by simp)
   have q2:=hd 2 (by simp)
   simp at q0 q1 q2
   rw [if_pos (by simp),q0,q1,q2]
   obtain ⟨ha,t1,t2,t3⟩:=ht
   have u1:=tw_eq (by omega) t1
   have u2:=tw_eq (by omega) t2
   have u3:=tw_eq (by omega) t3
   simp only [Co.mk.injEq]
   omega
  ·by_cases ha:a=255
   ·have e:sxs r g b a=[r / 16,r % 16,g / 16,g % 16,b / 16,b % 16]:=by unfold sxs;rw [if_neg ht,if_pos ha]
    rw [e] at hd ⊢
    have q0:=hd 0 (by simp)
    have q1:=hd 1 (by simp)
    have q2:=hd 2 (by simp)
    have q3:=hd 3 (by simp)
    have q4:=hd 4 (by simp)
    have q5:=hd 5 (by simp)
    simp at q0 q1 q2 q3 q4 q5
    rw [if_neg (by simp),if_pos (by simp),q0,q1,q2,q3,q4,q5]
    simp only [Co.mk.injEq]
    omega
   ·have e:sxs r g b a=[r / 16,r % 16,g / 16,g % 16,b / 16,b % 16,a / 16,a % 16]:=by unfold sxs;rw [if_neg ht,if_neg ha]
    rw [e] at hd ⊢
    have q0:=hd 0 (by simp)
    have q1:=hd 1 (by simp)
    have q2:=hd 2 (by simp)
    have q3:=hd 3 (by simp)
    have q4:=hd 4 (by simp)
    have q5:=hd 5 (by simp)
    have q6:=hd 6 (by simp)
    have q7:=hd 7 (by simp)
    simp at q0 q1 q2 q3 q4 q5 q6 q7
    rw [if_neg (by simp),if_neg (by simp),q0,q1,q2,q3,q4,q5,q6,q7]
    simp only [Co.mk.injEq]
    omega
end Go.Proofs.YtapachlhdgehjaaGreatDoor

/- What is written as shapes is read as itself, in plain words: numbers, colours, escaped texts. -/
namespace Go.Proofs.YtapachlhdgehjaaGreatDoor
open Go.RowKit Go.Lib
theorem rnO_app {P:Nat→Bool}:∀ {l:List UInt8} {c:UInt8} {t:List UInt8},(∀ x∈l,P x.toNat=true)→P c.toNat=false→rnO P (l++c :: t)=l.length
 | [],c,t,_,hc=>by
  unfold rnO
  simp [hc]
 | x :: l,c,t,h,hc=>by
  have ih:=rnO_app (P:=P) (l:=l) (c:=c) (t:=t) (fun y hy=>h y (List.mem_cons_of_mem _ hy)) hc
  have hx:=h x (List.mem_cons_self ..)
  unfold rnO at ih ⊢
  rw [List.cons_append,List.takeWhile_cons]
  simp only [hx,if_true,List.length_cons,ih]
theorem dec_rec (u:Nat):decDigits u=if u<10 then [UInt8.ofNat (48+u)] else decDigits (u / 10)++[UInt8.ofNat (48+u % 10)]:=by
 rw [decDigits]
 by_cases h:u<10
 ·rw [dif_pos h,if_pos h]
 ·rw [dif_neg h,if_neg h]
theorem dec_dig (u:Nat):∀ c∈decDigits u,dgB c.toNat=true:=by
 induction u using Nat.strongRecOn with
 | ind u ih =>
  intro c hc
  have one:∀ k:Nat,k<10→dgB (UInt8.ofNat (48+k)).toNat=true:=fun k hk=>by
   rw [UInt8.toNat_ofNat']
   unfold dgB
   simp only [Bool.and_eq_true,decide_eq_true_eq]
   omega
  rw [dec_rec] at hc
  split at hc
  ·next h =>
   rw [List.mem_singleton.1 hc]
   exact one u h
  ·rcases List.mem_append.1 hc with hc | hc
   ·exact ih (u / 10) (by omega) c hc
   ·rw [List.mem_singleton.1 hc]
    exact one _ (by omega)
theorem dec_len:∀ (k u:Nat),u<10 ^ (k+1)→0<(decDigits u).length∧(decDigits u).length≤k+1
 | 0,u,h=>by
  rw [dec_rec,if_pos (by simpa using h)]
  exact ⟨by simp,by simp⟩
 | k+1,u,h=>by
  rw [dec_rec]
  split
  ·exact ⟨by simp,by simp⟩
  ·have:=dec_len k (u / 10) (by
    rw [Nat.div_lt_iff_lt_mul (by decide)]
    rw [Nat.pow_succ] at h
    exact h)
   rw [List.length_append,List.length_singleton]
   omega
theorem par_app (l1 l2:List UInt8):∀ acc,parseUint10 acc (l1++l2)=match parseUint10 acc l1 with | .ok v=>parseUint10 v l2 | .syntax=>.syntax | .range=>.range:=by
 induction l1 with
 | nil=>intro acc;rfl
 | cons c l1 ih =>
  intro acc
  rw [List.cons_append,parseUint10,parseUint10]
  split
  ·split
   ·rfl
   ·split
    ·rfl
    ·exact ih _
  ·rfl
theorem par_dec (u:Nat) (h:u<1000000000):parseUint10 0 (decDigits u) = .ok u:=by
 induction u using Nat.strongRecOn with
 | ind u ih =>
  have one:∀ acc k:Nat,k<10→acc<1000000000→parseUint10 acc [UInt8.ofNat (48+k)] = .ok (acc * 10+k):=fun acc k hk ha=>by
   have e:(UInt8.ofNat (48+k)).toNat=48+k:=by rw [UInt8.toNat_ofNat'];omega
   rw [parseUint10,e,if_pos (by omega),if_neg (by omega),if_neg (by omega),parseUint10]
   congr 1
   omega
  rw [dec_rec]
  split
  ·next h1 =>
   rw [one 0 u h1 (by decide)]
   congr 1
   omega
  ·rw [par_app,ih (u / 10) (by omega) (by omega)]
   simp only
   rw [one (u / 10) (u % 10) (by omega) (by omega)]
   congr 1
   omega
theorem ato_itoa {n:Int} (h1 : -1000000000<n) (h2:n<1000000000):atoiAll (itoa n) = .ok n:=by
 have mag:∀ u:Nat,u<1000000000→parseMag (decDigits u) = .ok u:=fun u hu=>by
  unfold parseMag
  rw [if_neg (fun e=>by have:=(dec_len 8 u (by simpa using hu)).1;rw [e] at this;exact absurd this (by decide)),par_dec u hu]
 unfold itoa
 split
 ·next hn =>
  rw [atoiAll_minus,mag _ (by omega)]
  unfold signed
  simp only
  rw [if_neg (by omega)]
  congr 1
  omega
 ·next hn =>
  rcases e:decDigits n.toNat with _ | ⟨c,r⟩
  ·exfalso
   have:=(dec_len 8 n.toNat (by simp;omega)).1
   rw [e] at this
   exact absurd this (by decide)
  ·have hd:=dec_dig n.toNat c (by rw [e];exact List.mem_cons_self ..)
   unfold dgB at hd
   simp only [Bool.and_eq_true,decide_eq_true_eq] at hd
   rw [atoiAll_plain c r (by omega) (by omega),← e,mag _ (by omega)]
   unfold signless
   simp only
   rw [if_neg (by omega)]
   congr 1
   omega
theorem nuL_itoa {n:Int} {c:UInt8} {t:List UInt8} (h1 : -1000000000<n) (h2:n<1000000000) (hc:dgB c.toNat=false):nuL (itoa n++c :: t)=some n∧pcN (itoa n++c :: t)=itoa n:=by
 have key:sgN (itoa n++c :: t)+dgN (itoa n++c :: t)=(itoa n).length∧dgN (itoa n++c :: t)≤9:=by
  unfold itoa
  split
  ·next hn =>
   have e1:sgN (45 :: decDigits n.natAbs++c :: t)=1:=by
    unfold sgN Lib.hasPrefix
    rfl
   have e2:dgN (45 :: decDigits n.natAbs++c :: t)=(decDigits n.natAbs).length:=by
    unfold dgN
    rw [e1]
    exact rnO_app (dec_dig _) hc
   rw [e1,e2,List.length_cons]
   exact ⟨by omega,(dec_len 8 _ (by simp;omega)).2⟩
  ·next hn =>
   have hl:=dec_len 8 n.toNat (by simp;omega)
   have e1:sgN (decDigits n.toNat++c :: t)=0:=by
    rcases e:decDigits n.toNat with _ | ⟨d,r⟩
    ·rw [e] at hl
     exact absurd hl.1 (by decide)
    ·have hd:=dec_dig n.toNat d (by rw [e];exact List.mem_cons_self ..)
     unfold dgB at hd
     simp only [Bool.and_eq_true,decide_eq_true_eq] at hd
     unfold sgN Lib.hasPrefix
     rw [if_neg]
     have h45:((45:UInt8)==d)=false:=by
      rw [beq_eq_false_iff_ne]
      intro e
      rw [← e] at hd
      exact absurd hd.1 (by decide)
     simp [List.isPrefixOf,h45]
   have e2:dgN (decDigits n.toNat++c :: t)=(decDigits n.toNat).length:=by
    unfold dgN
    rw [e1]
    exact rnO_app (dec_dig _) hc
   rw [e1,e2]
   exact ⟨by omega,hl.2⟩
 have hp:pcN (itoa n++c :: t)=itoa n:=by
  unfold pcN
  rw [key.1,List.take_left]
 refine ⟨?_,hp⟩
 unfold nuL
 rw [if_neg (by omega),hp,ato_itoa h1 h2]
 simp
theorem bt_cl:∀ k:Fin 16,clB (bt k.val).toNat=true:=by decide +kernel
theorem coL_txt {c:Co} (hc:c.ok) {d:UInt8} {t:List UInt8} (hd:clB d.toNat=false):coL ((txt c).data.toList++d :: t)=some c∧pcC ((txt c).data.toList++d :: t)=(txt c).data.toList:=by
 obtain ⟨b1,b2,_,_⟩:=back_text c hc
 have hall:∀ x∈(txt c).data.toList,clB x.toNat=true:=fun x hx=>by
  rw [txt_sT] at hx
  have hl:=(sxs_lt (r:=c.r.toNat) (g:=c.g.toNat) (b:=c.b.toNat) (a:=c.a.toNat) (by have:=hc.1;unfold By at this;omega) (by have:=hc.2.1;unfold By at this;omega) (by have:=hc.2.2.1;unfold By at this;omega) (by have:=hc.2.2.2;unfold By at this;omega)).1
  unfold sT at hx
  have hx2:x=35∨∃ k,k∈sxs c.r.toNat c.g.toNat c.b.toNat c.a.toNat∧bt k=x:=by simpa using hx
  rcases hx2 with rfl | ⟨k,hk,rfl⟩
  ·decide
  ·exact bt_cl ⟨k,hl k hk⟩
 have hp:pcC ((txt c).data.toList++d :: t)=(txt c).data.toList:=by
  unfold pcC
  rw [rnO_app hall hd,List.take_left]
 refine ⟨?_,hp⟩
 unfold coL
 rw [hp]
 have e:(⟨(txt c).data.toList.toArray⟩:ByteArray)=txt c:=by simp
 rw [e,b2]
 have e2:parE (txt c)=0:=by unfold parE;rw [b1];rfl
 rw [if_pos ⟨e2,rfl⟩]
theorem esc_no60:∀ (l:List UInt8),∀ x∈escL l,x≠60
 | [],x,h=>by cases h
 | b :: l,x,h=>by
  rw [escL_cons] at h
  rcases List.mem_append.1 h with h | h
  ·unfold escB at h
   split at h
   ·next hs =>
    rw [List.mem_singleton.1 h]
    intro e
    rw [e] at hs
    exact absurd hs (by decide)
   ·have hb:=b.toNat_lt
    have no:∀ k:Fin 16,bt k.val≠60:=by decide +kernel
    simp only [List.mem_cons,List.not_mem_nil,or_false] at h
    rcases h with rfl | rfl | rfl | rfl
    ·decide
    ·exact no ⟨b.toNat / 16,by omega⟩
    ·exact no ⟨b.toNat % 16,by omega⟩
    ·decide
  ·exact esc_no60 l x h
theorem idx_no60:∀ (l t:List UInt8),(∀ x∈l,x≠60)→(Lib.cut (l++60 :: t) [60]).1=l
 | l,t,h=>by
  have hi:∀ l:List UInt8,(∀ x∈l,x≠60)→Lib.index (l++60 :: t) [60]=(l.length:Int):=by
   intro l
   induction l with
   | nil=>intro _;simp [Lib.index,List.isPrefixOf]
   | cons b l ih =>
    intro h
    have hb:((60:UInt8)==b)=false:=by
     rw [beq_eq_false_iff_ne]
     exact fun e=>h b (List.mem_cons_self ..) e.symm
    have:=ih fun x hx=>h x (List.mem_cons_of_mem _ hx)
    rw [List.cons_append,Lib.index,this]
    simp only [List.isPrefixOf,hb,Bool.false_and,Bool.false_eq_true,if_false]
    rw [if_neg (by simp),List.length_cons]
    omega
  unfold Lib.cut
  rw [hi l h]
  simp
theorem esA_esc (l:List UInt8) (t:List UInt8):pcE (escL l++60 :: t)=escL l∧esA (escL l++60 :: t)=(l,0,0):=by
 have hp:pcE (escL l++60 :: t)=escL l:=idx_no60 _ _ (esc_no60 l)
 refine ⟨hp,?_⟩
 unfold esA
 rw [hp]
 exact vpA_esc l
end Go.Proofs.YtapachlhdgehjaaGreatDoor

/- What is written as shapes is read as itself, in plain words: lines, lists. -/
namespace Go.Proofs.YtapachlhdgehjaaGreatDoor
open Go.RowKit Go.Lib
structure Rdb (T:St):Prop where
 x : -1000000000<T.r.x∧T.r.x<1000000000
 y : -1000000000<T.r.y∧T.r.y<1000000000
 w : -1000000000<T.r.w∧T.r.w<1000000000
 h : -1000000000<T.r.h∧T.r.h<1000000000
 n : -1000000000<T.n∧T.n<1000000000
 c:T.c.ok
 b:T.b.ok
def stF (T:St) (c:Nat) (st:St):St :=
 if c=88 then { st with r:={ st.r with x:=T.r.x } }
 else if c=89 then { st with r:={ st.r with y:=T.r.y } }
 else if c=87 then { st with r:={ st.r with w:=T.r.w } }
 else if c=72 then { st with r:={ st.r with h:=T.r.h } }
 else if c=67 then { st with c:=T.c }
 else if c=66 then { st with b:=T.b }
 else if c=78 then { st with n:=T.n }
 else if c=84 then { st with t:=T.t }
 else st
def sepO (c d:Nat):Bool:=if c=67∨c=66 then !clB d else if c=84 then d==60 else !dgB d
theorem tdL_pce {T:St} (hT:Rdb T) {n:Nat} {d:UInt8} (t:List UInt8) (hc:leB n=true) (hd:sepO n d.toNat=true) (st:St):tdL n (pceF T n++d :: t) st = .inr (stF T n st,(pceF T n).length):=by
 unfold sepO at hd
 unfold tdL stF
 by_cases c1:n=88
 ·subst c1
  obtain ⟨q1,q2⟩:=nuL_itoa (c:=d) (t:=t) hT.x.1 hT.x.2 (by simpa using hd)
  rw [if_pos rfl,if_pos rfl]
  rw [show pceF T 88=itoa T.r.x from rfl,q1,q2]
 rw [if_neg c1,if_neg c1]
 by_cases c2:n=89
 ·subst c2
  obtain ⟨q1,q2⟩:=nuL_itoa (c:=d) (t:=t) hT.y.1 hT.y.2 (by simpa using hd)
  rw [if_pos rfl,if_pos rfl]
  rw [show pceF T 89=itoa T.r.y from rfl,q1,q2]
 rw [if_neg c2,if_neg c2]
 by_cases c3:n=87
 ·subst c3
  obtain ⟨q1,q2⟩:=nuL_itoa (c:=d) (t:=t) hT.w.1 hT.w.2 (by simpa using hd)
  rw [if_pos rfl,if_pos rfl]
  rw [show pceF T 87=itoa T.r.w from rfl,q1,q2]
 rw [if_neg c3,if_neg c3]
 by_cases c4:n=72
 ·subst c4
  obtain ⟨q1,q2⟩:=nuL_itoa (c:=d) (t:=t) hT.h.1 hT.h.2 (by simpa using hd)
  rw [if_pos rfl,if_pos rfl]
  rw [show pceF T 72=itoa T.r.h from rfl,q1,q2]
 rw [if_neg c4,if_neg c4]
 by_cases c5:n=67
 ·subst c5
  obtain ⟨q1,q2⟩:=coL_txt (d:=d) (t:=t) hT.c (by simpa using hd)
  rw [if_pos rfl,if_pos rfl]
  rw [show pceF T 67=(txt T.c).data.toList from rfl,q1,q2]
 rw [if_neg c5,if_neg c5]
 by_cases c6:n=66
 ·subst c6
  obtain ⟨q1,q2⟩:=coL_txt (d:=d) (t:=t) hT.b (by simpa using hd)
  rw [if_pos rfl,if_pos rfl]
  rw [show pceF T 66=(txt T.b).data.toList from rfl,q1,q2]
 rw [if_neg c6,if_neg c6]
 by_cases c7:n=78
 ·subst c7
  obtain ⟨q1,q2⟩:=nuL_itoa (c:=d) (t:=t) hT.n.1 hT.n.2 (by simpa using hd)
  rw [if_pos rfl,if_pos rfl]
  rw [show pceF T 78=itoa T.n from rfl,q1,q2]
 rw [if_neg c7,if_neg c7]
 by_cases c8:n=84
 ·subst c8
  have hd6:d=60:=UInt8.toNat_inj.1 (by simpa using hd)
  subst hd6
  obtain ⟨q1,q2⟩:=esA_esc T.t.data.toList t
  rw [if_pos rfl,if_pos rfl]
  rw [show pceF T 84=escL T.t.data.toList from rfl,q1,q2,if_pos rfl]
 ·exfalso
  unfold leB at hc
  simp [c1,c2,c3,c4,c5,c6,c7,c8] at hc
def sepN (c:Nat):List UInt8→Bool
 | []=>false
 | d :: _=>fxB d.toNat&&sepO c d.toNat
def sepB:List UInt8→Bool
 | []=>true
 | c :: r=>(fxB c.toNat||(leB c.toNat&&sepN c.toNat r))&&sepB r
theorem sepB_app:∀ (a b:List UInt8),sepB (a++b)=true→sepB b=true
 | [],b,h=>h
 | c :: a,b,h=>by
  rw [List.cons_append,sepB,Bool.and_eq_true] at h
  exact sepB_app a b h.2
theorem bgB_yes {s:ByteArray} {p:Nat} {x y:List UInt8} (h:rsL s p=x++y):bgB s p x=true∧rsL s (p+x.length)=y:=by
 constructor
 ·unfold bgB Lib.hasPrefix
  rw [h]
  exact List.isPrefixOf_iff_prefix.2 (List.prefix_append _ _)
 ·unfold rsL at h ⊢
  rw [show List.drop (p+x.length) s.data.toList=List.drop x.length (List.drop p s.data.toList) from (List.drop_drop ..).symm,h,List.drop_left]
theorem lnL_lin {s:ByteArray} {T:St} (hT:Rdb T):∀ (f:Nat) (form:List UInt8) (p:Nat) (st:St) (rest:List UInt8),form.length<f→sepB form=true→rsL s p=linF form T++rest →
  lnL f form s p st = .inr ((lets form).foldl (fun (st:St) (c:UInt8)=>stF T c.toNat st) st,p+(linF form T).length)∧rsL s (p+(linF form T).length)=rest
 | 0,_,_,_,_,h,_,_=>by omega
 | f+1,form,p,st,rest,hf,hs,h=>by
  refine ⟨?_,(bgB_yes h).2⟩
  have hpre:∀ b∈form.takeWhile (fun c:UInt8=>fxB c.toNat),fxB b.toNat=true:=fun b hb=>List.all_eq_true.1 List.all_takeWhile b hb
  have hall:form=form.takeWhile (fun c:UInt8=>fxB c.toNat)++form.dropWhile (fun c:UInt8=>fxB c.toNat):=List.takeWhile_append_dropWhile.symm
  have hlet0:lets (form.takeWhile (fun c:UInt8=>fxB c.toNat))=[]:=by
   unfold lets
   rw [List.filter_eq_nil_iff]
   intro b hb
   rw [hpre b hb]
   decide
  have hlin:linF form T=form.takeWhile (fun c:UInt8=>fxB c.toNat)++linF (form.dropWhile (fun c:UInt8=>fxB c.toNat)) T:=by
   conv=>lhs;rw [hall]
   rw [linF_app,lin_fix T _ hpre]
  have hlets:lets form=lets (form.dropWhile (fun c:UInt8=>fxB c.toNat)):=by
   conv=>lhs;rw [hall]
   unfold lets at hlet0 ⊢
   rw [List.filter_append,hlet0]
   rfl
  have hk:(form.takeWhile (fun c:UInt8=>fxB c.toNat)).length=rnO fxB form:=rfl
  rw [hlin,List.append_assoc] at h
  obtain ⟨b1,b2⟩:=bgB_yes h
  rw [hk] at b2
  rcases he:form.dropWhile (fun c:UInt8=>fxB c.toNat) with _ | ⟨c,r⟩
  ·rw [lnL_end (by rw [take_rnO];exact b1) (by rw [drop_rnO];exact he),hlets,he,hlin,he]
   show Sum.inr (st,p+rnO fxB form)=Sum.inr (st,p+(form.takeWhile (fun c:UInt8=>fxB c.toNat)++[]).length)
   rw [List.append_nil,hk]
  ·have hcf:fxB c.toNat=false:=by
    have:=List.head?_dropWhile_not (fun c:UInt8=>fxB c.toNat) form
    rw [he] at this
    simpa using this
   have hs2:sepB (c :: r)=true:=by
    rw [hall,he] at hs
    exact sepB_app _ _ hs
   rw [sepB,Bool.and_eq_true,hcf,Bool.false_or,Bool.and_eq_true] at hs2
   obtain ⟨⟨hle,hd⟩,hsr⟩:=hs2
   rcases r with _ | ⟨d,r2⟩
   ·exact absurd hd (by simp [sepN])
   simp only [sepN,Bool.and_eq_true] at hd
   rw [he,linF_cons] at b2
   have hlind:linF (d :: r2) T=d :: linF r2 T:=by rw [linF_cons,fix_pce T hd.1];rfl
   have htd:=tdL_pce hT (linF r2 T++rest) hle hd.2 st
   have hr2:rsL s (p+rnO fxB form)=pceF T c.toNat++d :: (linF r2 T++rest):=by
    rw [b2,hlind,List.append_assoc]
    rfl
   have hr3:rsL s (p+rnO fxB form+(pceF T c.toNat).length)=linF (d :: r2) T++rest:=by
    have:=(bgB_yes hr2).2
    rw [this,hlind]
    rfl
   have hlen:form.length=rnO fxB form+(r2.length+2):=by
    have:=congrArg List.length hall
    rw [he,List.length_append,hk] at this
    exact this
   rw [lnL_go (by rw [take_rnO];exact b1) (by rw [drop_rnO];exact he),hr2,htd]
   have ih:=(lnL_lin hT f (d :: r2) (p+rnO fxB form+(pceF T c.toNat).length) (stF T c.toNat st) rest (by rw [List.length_cons];omega) hsr hr3).1
   simp only
   rw [ih,hlets,he,hlin,he,linF_cons c (d :: r2) T]
   have hl2:lets (c :: d :: r2)=c :: lets (d :: r2):=by
    unfold lets
    rw [List.filter_cons,hcf]
    rfl
   rw [hl2,List.foldl_cons,List.length_append,List.length_append,hk]
   congr 2
   omega
theorem form_sep:∀ k:Fin 6,sepB (forF (k.val:Int))=true:=by decide +kernel
theorem head_sep:sepB hedF=true:=by decide +kernel
def prB (a b:List UInt8):Bool:=!a.isPrefixOf b && !b.isPrefixOf a
theorem pr_no {a b x:List UInt8} (h:prB a b=true):a.isPrefixOf (b++x)=false:=by
 unfold prB at h
 simp only [Bool.and_eq_true,Bool.not_eq_true'] at h
 cases hc:a.isPrefixOf (b++x) with
 | false=>rfl
 | true =>
  exfalso
  rcases List.prefix_or_prefix_of_prefix (List.isPrefixOf_iff_prefix.1 hc) (List.prefix_append b x) with h1 | h1
  ·rw [List.isPrefixOf_iff_prefix.2 h1] at h
   exact absurd h.1 (by decide)
  ·rw [List.isPrefixOf_iff_prefix.2 h1] at h
   exact absurd h.2 (by decide)
def fixF (k:Int):List UInt8:=(forF k).take (rnO fxB (forF k))
theorem fix_pr:∀ i k:Fin 6,1≤i.val→i.val<k.val→prB (fixF (i.val:Int)) (fixF (k.val:Int))=true:=by decide +kernel
theorem fix_last:∀ k:Fin 6,1≤k.val→prB lstF (fixF (k.val:Int))=true:=by decide +kernel
theorem str_fix (T:St):∃ x,strF T=fixF T.k++x:=by
 have hall:forF T.k=(forF T.k).takeWhile (fun c:UInt8=>fxB c.toNat)++(forF T.k).dropWhile (fun c:UInt8=>fxB c.toNat):=List.takeWhile_append_dropWhile.symm
 refine ⟨linF ((forF T.k).dropWhile (fun c:UInt8=>fxB c.toNat)) T,?_⟩
 unfold strF fixF
 conv=>lhs;rw [hall]
 rw [linF_app,lin_fix T _ (fun b hb=>List.all_eq_true.1 List.all_takeWhile b hb),take_rnO]
theorem one_back {T:St} (h:oneE T=0):{ (lets (forF T.k)).foldl (fun (st:St) (c:UInt8)=>stF T c.toNat st) zSo with k:=T.k }=T:=by
 obtain ⟨_,hk,hw⟩:=oneE_zero h
 unfold wroF at hw
 simp only [Bool.or_eq_false_iff,Bool.and_eq_false_iff,Bool.not_eq_false'] at hw
 obtain ⟨w1,w2,w3⟩:=hw
 obtain ⟨k,⟨rx,ry,rw_,rh⟩,⟨c1,c2,c3,c4⟩,⟨b1,b2,b3,b4⟩,t,n⟩:=T
 have txt0:∀ t:ByteArray,t.size=0→(⟨#[]⟩:ByteArray)=t:=fun t ht=>by
  obtain ⟨⟨l⟩⟩:=t
  have:l=[]:=by simpa [ByteArray.size] using ht
  rw [this]
 simp only at hk w1 w2 w3
 rcases hk with rfl | rfl | rfl | rfl | rfl
 ·have hz:t.size=0∧(b1=0∧b2=0∧b3=0∧b4=0):=by simpa [coE] using w1
  obtain ⟨ht,rfl,rfl,rfl,rfl⟩:=hz
  rw [← txt0 t ht]
  rfl
 ·have hz:t.size=0∧(b1=0∧b2=0∧b3=0∧b4=0):=by simpa [coE] using w1
  obtain ⟨ht,rfl,rfl,rfl,rfl⟩:=hz
  rw [← txt0 t ht]
  rfl
 ·rfl
 ·have hz:t.size=0∧(b1=0∧b2=0∧b3=0∧b4=0):=by simpa [coE] using w1
  obtain ⟨ht,rfl,rfl,rfl,rfl⟩:=hz
  have hc:c1=0∧c2=0∧c3=0∧c4=0:=by simpa [coE] using w2
  obtain ⟨rfl,rfl,rfl,rfl⟩:=hc
  rw [← txt0 t ht]
  rfl
 ·have hz:t.size=0∧(b1=0∧b2=0∧b3=0∧b4=0):=by simpa [coE] using w1
  obtain ⟨ht,rfl,rfl,rfl,rfl⟩:=hz
  have hc:c1=0∧c2=0∧c3=0∧c4=0:=by simpa [coE] using w2
  obtain ⟨rfl,rfl,rfl,rfl⟩:=hc
  have hr:rx=0∧ry=0∧rw_=0∧rh=0:=by simpa [zZr,eqB] using w3
  obtain ⟨rfl,rfl,rfl,rfl⟩:=hr
  rw [← txt0 t ht]
  rfl
end Go.Proofs.YtapachlhdgehjaaGreatDoor
