/-
  Texts of this claim, one behind the other: what each is about stands ahead of it.
-/
import Derived.Test.YtapachlhdgehjaaGreatDoorK32
import Derived.Test.YtapachlhdgehjaaGreatDoorK0
import Derived.Test.YtapachlhdgehjaaGreatDoorK8
import Derived.Test.YtapachlhdgehjaaGreatDoorK18
import Derived.Lib.BufferRead
import Derived.Test.YtapachlhdgehjaaGreatDoorRows
import Derived.Test.YtapachlhdgehjaaGreatDoorK3
import Derived.PinnedBridge
import Derived.Lib.LaidU8T
import Derived.Lib.LaidTab
import Derived.MakeChecks
/- Contracts of package vector: appendLine. -/
namespace Go.Proofs.YtapachlhdgehjaaGreatDoor
open Go.RowKit
theorem KpY.bk {lo:Nat} {w w':World} (h:KpY lo w w') {g:Nat} {cs:Array Value} {t:TypeId} (hg:Bk w g cs t) (ht:t≠5):Bk w' g cs t:=h.cell hg ht
theorem pce_else {s:St} {b:Nat} (h1:¬ b=88) (h2:¬ b=89) (h3:¬ b=87) (h4:¬ b=72) (h5:¬ b=67) (h6:¬ b=66) (h7:¬ b=78) (h8:¬ b=84):pceF s b=[UInt8.ofNat b]:=by
 unfold pceF
 rw [if_neg h1,if_neg h2,if_neg h3,if_neg h4,if_neg h5,if_neg h6,if_neg h7,if_neg h8]
theorem bk15 {W:World} {b:Nat} {s:St} {t:TypeId} (h:Bk W b (#[.int .u8 s.k,.int .i64 s.r.x,.int .i64 s.r.y,.int .i64 s.r.w,.int .i64 s.r.h,.int .u8 s.c.r,.int .u8 s.c.g,.int .u8 s.c.b,.int .u8 s.c.a,.int .u8 s.b.r,.int .u8 s.b.g,.int .u8 s.b.b,.int .u8 s.b.a,.string s.t,.int .i64 s.n]) t):StAt W b 0 s:=by
 rw [stat_iff]
 intro j hj
 rw [Nat.zero_add,h.cell]
 show (sCel s).toArray[j]? = _
 rw [List.getElem?_toArray]
set_option maxRecDepth 10000 in
set_option maxHeartbeats 8000000 in
theorem line_any (lo:Nat) (v:Value) (xs:List UInt8) (form:ByteArray) (s:St) (w:World) (h:OwY lo w v xs) (hlo:lo≤w.heap.size) (hs:WfS s) (ht:s.t.size≤1000000) (hf:form.size≤1000) (hl:xs.length≤1000000000) (T:PwT lo w) :
  Calls Tryz.prog 65 #[v,.string form,(Value.agg #[.int .u8 s.k,.int .i64 s.r.x,.int .i64 s.r.y,.int .i64 s.r.w,.int .i64 s.r.h,.int .u8 s.c.r,.int .u8 s.c.g,.int .u8 s.c.b,.int .u8 s.c.a,.int .u8 s.b.r,.int .u8 s.b.g,.int .u8 s.b.b,.int .u8 s.b.a,.string s.t,.int .i64 s.n])] w fun e w'=>∃ v',e = .returned v'∧OwY lo w' v' (xs++linF form.data.toList s)∧KpY lo w w':=by
 have B0:Below w.heap.size w (w.alloc (.cells (#[.int .u8 s.k,.int .i64 s.r.x,.int .i64 s.r.y,.int .i64 s.r.w,.int .i64 s.r.h,.int .u8 s.c.r,.int .u8 s.c.g,.int .u8 s.c.b,.int .u8 s.c.a,.int .u8 s.b.r,.int .u8 s.b.g,.int .u8 s.b.b,.int .u8 s.b.a,.string s.t,.int .i64 s.n]) 55)):=(Below.refl _ w).alloc (Nat.le_refl _) _
 have H0:Hid (LiW lo w.heap.size w xs form s 0 v (w.alloc (.cells (#[.int .u8 s.k,.int .i64 s.r.x,.int .i64 s.r.y,.int .i64 s.r.w,.int .i64 s.r.h,.int .u8 s.c.r,.int .u8 s.c.g,.int .u8 s.c.b,.int .u8 s.c.a,.int .u8 s.b.r,.int .u8 s.b.g,.int .u8 s.b.b,.int .u8 s.b.a,.string s.t,.int .i64 s.n]) 55))):=⟨by simpa [linF] using h.below B0,KpY.of_below hlo B0,Nat.le_trans hlo B0.size,Bk.new _ _ _⟩
 have HL:Hid (lo≤w.heap.size∧xs.length≤1000000000∧WfS s∧PwT lo w):=⟨hlo,hl,hs,T⟩
 have HNum:Hid (∀ (u:Value) (ys:List UInt8) (i:Int) W,OwY lo W u ys→KpY lo w W→ys.length+21≤140737488355328→I64 i→Calls Tryz.prog 99 #[u,.int .i64 i] W fun e w'=>∃ v',e = .returned v'∧OwY lo w' v' (ys++Lib.itoa i)∧KpY lo W w'):=fun u ys i W h1 h2 h3 h4=>num_any lo u ys i W h1 (Nat.le_trans hlo h2.b.size) h3 h4 (T.on h2.b)
 have HTx:Hid (∀ (c:Co) W,c.ok→Calls Tryz.prog 100 #[(Value.agg #[.int .u8 c.r,.int .u8 c.g,.int .u8 c.b,.int .u8 c.a])] W fun e w'=>e = .returned (.string (txt c))∧Below W.heap.size W w'):=fun c W hc=>text_any c W hc
 have HEs:Hid (∀ (u:Value) (ys:List UInt8) W,OwY lo W u ys→KpY lo w W→ys.length+4 * s.t.size≤140737488355328→Calls Tryz.prog 101 #[u,.string s.t] W fun e w'=>∃ v',e = .returned v'∧OwY lo w' v' (ys++escL s.t.data.toList)∧KpY lo W w'):=fun u ys W h1 h2 h3=>escd_any lo u ys s.t W h1 (Nat.le_trans hlo h2.b.size) h3
 obtain ⟨b,hb⟩:∃ b,b=w.heap.size:=⟨_,rfl⟩
 rw [← hb] at H0
 have HB:Hid (b=w.heap.size):=hb
 clear h hlo hl hs T B0
 go_enter Tryz.func65,Tryz.ntmps65
 go_wp2_with fail
 rw [← hb]
 clear hb
 go_loopw [0,10] (fun u0 i wr=>∃ (u:Value) (k:Nat),u=u0∧k≤form.size∧i = .int .i64 k∧Hid (LiW lo b w xs form s k u wr)) (fun _ i _=>form.size - (intOf i).toNat)
 case atStart=>exact ⟨v,0,rfl,Nat.zero_le _,rfl,H0⟩
 case round =>
  obtain ⟨u,k,rfl,hk,rfl,HR⟩:=hrel
  clear H0
  by_cases hlt:k<form.size
  ·have hb256:=UInt8.toNat_lt form[k]
   have hmul:Hid (k * (30+4 * s.t.size)≤1000 * 4000030):=Nat.mul_le_mul (by omega) (by omega)
   obtain ⟨XS,hXS⟩:∃ XS,XS=xs++linF (form.data.toList.take k) s:=⟨_,rfl⟩
   have HX:Hid (∀ W V,OwY lo W V (XS++pceF s (form[k]).toNat)→KpY lo wr W→LiW lo b w xs form s (k+1) V W):=fun W V h1 h2=>by
    refine ⟨?_,HR.out.kp.trans h2,Nat.le_trans HR.out.sz h2.b.size,h2.bk HR.out.bx (by decide)⟩
    rw [take_next form k hlt,linF_app,← List.append_assoc,← hXS]
    have e:linF [form[k]] s=pceF s (form[k]).toNat:=by simp [linF]
    rw [e]
    exact h1
   have hlen:Hid (XS.length≤100000000000):=by
    unfold Hid
    have h1:=lin_len s HL.out.2.2.1 (form.data.toList.take k)
    have h3:(form.data.toList.take k).length=k:=by simp;omega
    have h4:=hmul.out
    have h5:=HL.out.2.1
    rw [h3] at h1
    rw [hXS,List.length_append]
    omega
   have HO:Hid (OwY lo wr u XS∧KpY lo w wr∧lo≤wr.heap.size):=⟨by rw [hXS];exact HR.out.ow,HR.out.kp,HR.out.sz⟩
   obtain ⟨x0,x1,x2,x3,x4,x5,x6,x7,x8,x9,x10,x11,x12,x13,x14⟩:=bk15 HR.out.bx
   simp only [Nat.zero_add] at x1 x2 x3 x4 x5 x6 x7 x8 x9 x10 x11 x12 x13 x14
   clear hXS HR hmul
   obtain ⟨c,hc⟩:∃ c,c=(form[k]).toNat:=⟨_,rfl⟩
   have HC:Hid (form[k]=UInt8.ofNat c):=by unfold Hid;rw [hc];simp
   rw [← hc] at HX hb256
   by_cases c88:c=88
   ·have e88:((form[k]).toNat:Int)=88:=by omega
    have HY:Hid (∀ W V,OwY lo W V (XS++Lib.itoa s.r.x)→KpY lo wr W→LiW lo b w xs form s (k+1) V W):=fun W V h1 h2=>HX.out W V (by rw [c88];exact h1) h2
    go_wp2_with fail
    refine (HNum.out u XS s.r.x _ HO.out.1 HO.out.2.1 (by have:=hlen.out;omega) HL.out.2.2.1.2.1.1).mono ?_
    rintro e w1 ⟨v1,rfl,h1,h2⟩
    clear x0 x1 x2 x3 x4 x5 x6 x7 x8 x9 x10 x11 x12 x13 x14
    have HF:Hid (LiW lo b w xs form s (k+1) v1 w1):=HY.out _ _ h1 h2
    clear h1 h2 HY HX HO HC
    go_wp2
    go_roundw
    case rel=>exact ⟨v1,k+1,rfl,by omega,by go_num,HF⟩
    case measure=>simp [intOf];omega
   by_cases c89:c=89
   ·have e89:((form[k]).toNat:Int)=89:=by omega
    have HY:Hid (∀ W V,OwY lo W V (XS++Lib.itoa s.r.y)→KpY lo wr W→LiW lo b w xs form s (k+1) V W):=fun W V h1 h2=>HX.out W V (by rw [c89];exact h1) h2
    go_wp2_with fail
    refine (HNum.out u XS s.r.y _ HO.out.1 HO.out.2.1 (by have:=hlen.out;omega) HL.out.2.2.1.2.1.2.1).mono ?_
    rintro e w1 ⟨v1,rfl,h1,h2⟩
    clear x0 x1 x2 x3 x4 x5 x6 x7 x8 x9 x10 x11 x12 x13 x14
    have HF:Hid (LiW lo b w xs form s (k+1) v1 w1):=HY.out _ _ h1 h2
    clear h1 h2 HY HX HO HC
    go_wp2
    go_roundw
    case rel=>exact ⟨v1,k+1,rfl,by omega,by go_num,HF⟩
    case measure=>simp [intOf];omega
   by_cases c87:c=87
   ·have e87:((form[k]).toNat:Int)=87:=by omega
    have HY:Hid (∀ W V,OwY lo W V (XS++Lib.itoa s.r.w)→KpY lo wr W→LiW lo b w xs form s (k+1) V W):=fun W V h1 h2=>HX.out W V (by rw [c87];exact h1) h2
    go_wp2_with fail
    refine (HNum.out u XS s.r.w _ HO.out.1 HO.out.2.1 (by have:=hlen.out;omega) HL.out.2.2.1.2.1.2.2.1).mono ?_
    rintro e w1 ⟨v1,rfl,h1,h2⟩
    clear x0 x1 x2 x3 x4 x5 x6 x7 x8 x9 x10 x11 x12 x13 x14
    have HF:Hid (LiW lo b w xs form s (k+1) v1 w1):=HY.out _ _ h1 h2
    clear h1 h2 HY HX HO HC
    go_wp2
    go_roundw
    case rel=>exact ⟨v1,k+1,rfl,by omega,by go_num,HF⟩
    case measure=>simp [intOf];omega
   by_cases c72:c=72
   ·have e72:((form[k]).toNat:Int)=72:=by omega
    have HY:Hid (∀ W V,OwY lo W V (XS++Lib.itoa s.r.h)→KpY lo wr W→LiW lo b w xs form s (k+1) V W):=fun W V h1 h2=>HX.out W V (by rw [c72];exact h1) h2
    go_wp2_with fail
    refine (HNum.out u XS s.r.h _ HO.out.1 HO.out.2.1 (by have:=hlen.out;omega) HL.out.2.2.1.2.1.2.2.2).mono ?_
    rintro e w1 ⟨v1,rfl,h1,h2⟩
    clear x0 x1 x2 x3 x4 x5 x6 x7 x8 x9 x10 x11 x12 x13 x14
    have HF:Hid (LiW lo b w xs form s (k+1) v1 w1):=HY.out _ _ h1 h2
    clear h1 h2 HY HX HO HC
    go_wp2
    go_roundw
    case rel=>exact ⟨v1,k+1,rfl,by omega,by go_num,HF⟩
    case measure=>simp [intOf];omega
   by_cases c67:c=67
   ·have e67:((form[k]).toNat:Int)=67:=by omega
    have HY:Hid (∀ W V,OwY lo W V (XS++(txt s.c).data.toList)→KpY lo wr W→LiW lo b w xs form s (k+1) V W):=fun W V h1 h2=>HX.out W V (by rw [c67];exact h1) h2
    go_wp2_with fail
    refine (HTx.out s.c _ HL.out.2.2.1.2.2.1).mono ?_
    rintro e w0 ⟨rfl,hb0⟩
    have HP:Hid (OwY lo w0 u XS∧KpY lo wr w0∧lo≤w0.heap.size):=⟨HO.out.1.below hb0,KpY.of_below HO.out.2.2 hb0,Nat.le_trans HO.out.2.2 hb0.size⟩
    have HZ:Hid ((txt s.c).size≤9):=by have:=txt_len s.c;unfold Hid;simpa using this
    clear hb0 x0 x1 x2 x3 x4 x5 x6 x7 x8 x9 x10 x11 x12 x13 x14
    generalize txt s.c=tx at *
    go_wp2_with (at_builtin;refine app_txt rfl _ _ rfl lo u XS tx rfl HP.out.1 rfl HP.out.2.2 (by have:=hlen.out;have:=HZ.out;omega) ?_)
    intro v1 w1 h1 h2
    replace h2:=HP.out.2.1.trans h2
    clear HP HZ
    have HF:Hid (LiW lo b w xs form s (k+1) v1 w1):=HY.out _ _ h1 h2
    clear h1 h2 HY HX HO HC
    go_wp2
    go_roundw
    case rel=>exact ⟨v1,k+1,rfl,by omega,by go_num,HF⟩
    case measure=>simp [intOf];omega
   by_cases c66:c=66
   ·have e66:((form[k]).toNat:Int)=66:=by omega
    have HY:Hid (∀ W V,OwY lo W V (XS++(txt s.b).data.toList)→KpY lo wr W→LiW lo b w xs form s (k+1) V W):=fun W V h1 h2=>HX.out W V (by rw [c66];exact h1) h2
    go_wp2_with fail
    refine (HTx.out s.b _ HL.out.2.2.1.2.2.2.1).mono ?_
    rintro e w0 ⟨rfl,hb0⟩
    have HP:Hid (OwY lo w0 u XS∧KpY lo wr w0∧lo≤w0.heap.size):=⟨HO.out.1.below hb0,KpY.of_below HO.out.2.2 hb0,Nat.le_trans HO.out.2.2 hb0.size⟩
    have HZ:Hid ((txt s.b).size≤9):=by have:=txt_len s.b;unfold Hid;simpa using this
    clear hb0 x0 x1 x2 x3 x4 x5 x6 x7 x8 x9 x10 x11 x12 x13 x14
    generalize txt s.b=tx at *
    go_wp2_with (at_builtin;refine app_txt rfl _ _ rfl lo u XS tx rfl HP.out.1 rfl HP.out.2.2 (by have:=hlen.out;have:=HZ.out;omega) ?_)
    intro v1 w1 h1 h2
    replace h2:=HP.out.2.1.trans h2
    clear HP HZ
    have HF:Hid (LiW lo b w xs form s (k+1) v1 w1):=HY.out _ _ h1 h2
    clear h1 h2 HY HX HO HC
    go_wp2
    go_roundw
    case rel=>exact ⟨v1,k+1,rfl,by omega,by go_num,HF⟩
    case measure=>simp [intOf];omega
   by_cases c78:c=78
   ·have e78:((form[k]).toNat:Int)=78:=by omega
    have HY:Hid (∀ W V,OwY lo W V (XS++Lib.itoa s.n)→KpY lo wr W→LiW lo b w xs form s (k+1) V W):=fun W V h1 h2=>HX.out W V (by rw [c78];exact h1) h2
    go_wp2_with fail
    refine (HNum.out u XS s.n _ HO.out.1 HO.out.2.1 (by have:=hlen.out;omega) HL.out.2.2.1.2.2.2.2.2).mono ?_
    rintro e w1 ⟨v1,rfl,h1,h2⟩
    clear x0 x1 x2 x3 x4 x5 x6 x7 x8 x9 x10 x11 x12 x13 x14
    have HF:Hid (LiW lo b w xs form s (k+1) v1 w1):=HY.out _ _ h1 h2
    clear h1 h2 HY HX HO HC
    go_wp2
    go_roundw
    case rel=>exact ⟨v1,k+1,rfl,by omega,by go_num,HF⟩
    case measure=>simp [intOf];omega
   by_cases c84:c=84
   ·have e84:((form[k]).toNat:Int)=84:=by omega
    have HY:Hid (∀ W V,OwY lo W V (XS++escL s.t.data.toList)→KpY lo wr W→LiW lo b w xs form s (k+1) V W):=fun W V h1 h2=>HX.out W V (by rw [c84];exact h1) h2
    go_wp2_with fail
    refine (HEs.out u XS _ HO.out.1 HO.out.2.1 (by have:=hlen.out;omega)).mono ?_
    rintro e w1 ⟨v1,rfl,h1,h2⟩
    clear x0 x1 x2 x3 x4 x5 x6 x7 x8 x9 x10 x11 x12 x13 x14
    have HF:Hid (LiW lo b w xs form s (k+1) v1 w1):=HY.out _ _ h1 h2
    clear h1 h2 HY HX HO HC
    go_wp2
    go_roundw
    case rel=>exact ⟨v1,k+1,rfl,by omega,by go_num,HF⟩
    case measure=>simp [intOf];omega
   have f88:(((form[k]).toNat:Int)==88)=false:=by rw [beq_eq_false_iff_ne];omega
   have f89:(((form[k]).toNat:Int)==89)=false:=by rw [beq_eq_false_iff_ne];omega
   have f87:(((form[k]).toNat:Int)==87)=false:=by rw [beq_eq_false_iff_ne];omega
   have f72:(((form[k]).toNat:Int)==72)=false:=by rw [beq_eq_false_iff_ne];omega
   have f67:(((form[k]).toNat:Int)==67)=false:=by rw [beq_eq_false_iff_ne];omega
   have f66:(((form[k]).toNat:Int)==66)=false:=by rw [beq_eq_false_iff_ne];omega
   have f78:(((form[k]).toNat:Int)==78)=false:=by rw [beq_eq_false_iff_ne];omega
   have f84:(((form[k]).toNat:Int)==84)=false:=by rw [beq_eq_false_iff_ne];omega
   clear x0 x1 x2 x3 x4 x5 x6 x7 x8 x9 x10 x11 x12 x13 x14
   have HE:=pce_else (s:=s) c88 c89 c87 c72 c67 c66 c78 c84
   have HY:Hid (∀ W V,W.ownsRow lo 5 1 V (XS.length+1) (Lib.byteCells (XS++[form[k]]))→KpY lo wr W→LiW lo b w xs form s (k+1) V W):=fun W V h1 h2=>HX.out W V (by rw [HE,← HC.out];unfold OwY;rw [List.length_append];exact h1) h2
   have HA:Hid (OwY lo (wr.alloc (.cells #[.int .u8 (form[k]).toNat] 5)) u XS∧KpY lo wr (wr.alloc (.cells #[.int .u8 (form[k]).toNat] 5))∧lo≤(wr.alloc (.cells #[.int .u8 (form[k]).toNat] 5)).heap.size):=⟨HO.out.1.below ((Below.refl _ _).alloc (Nat.le_refl _) _),(KpY.refl _ _).alloc HO.out.2.2 _,by have:=HO.out.2.2;simp;omega⟩
   clear HE HC HX HO c88 c89 c87 c72 c67 c66 c78 c84
   go_wp2_with (at_builtin;refine app_lit rfl _ _ rfl lo u XS [form[k]] rfl HA.out.1 wr.heap.size _ 1 1 #[.int .u8 (form[k]).toNat] 5 rfl rfl (alc_new _ _) rfl HA.out.2.2 (by have:=hlen.out;simp;omega) rfl ?_)
   intro v1 w1 h1 h2
   have HF:Hid (LiW lo b w xs form s (k+1) v1 w1):=HY.out _ _ h1 (HA.out.2.1.trans h2)
   clear h1 h2 HY HA hc
   go_wp2
   go_roundw
   case rel=>exact ⟨v1,k+1,rfl,by omega,by go_num,HF⟩
   case measure=>simp [intOf];omega
  ·obtain rfl:k=form.size:=by omega
   go_wp2
   go_ret
   refine ⟨_,rfl,?_,HR.out.kp⟩
   have:=HR.out.ow
   rwa [vtake_all] at this
end Go.Proofs.YtapachlhdgehjaaGreatDoor

/- Contracts of package vector: appendShapes. -/
namespace Go.Proofs.YtapachlhdgehjaaGreatDoor
open Go.RowKit
theorem shpF_app (a b:List St):shpF (a++b)=shpF a++shpF b:=List.flatMap_append
theorem forF_len (k:Int):(forF k).length≤100:=by
 unfold forF
 repeat' split
 all_goals decide
theorem strF_len (s:St) (h:WfS s) (ht:s.t.size≤100000):(strF s).length≤40003000:=by
 have h1:=lin_len s h (forF s.k)
 have h2:=Nat.mul_le_mul (forF_len s.k) (show 30+4 * s.t.size≤400030 by omega)
 unfold strF
 omega
theorem z64:I64 0:=⟨by omega,by omega⟩
theorem zok:Co.ok ⟨0,0,0,0⟩:=by unfold Co.ok By;decide
theorem hd_wf {zw zh:Int} (h1:I64 zw) (h2:I64 zh):WfS ⟨0,⟨0,0,zw,zh⟩,⟨0,0,0,0⟩,⟨0,0,0,0⟩,ByteArray.empty,0⟩:=by
 exact ⟨⟨Int.le_refl 0,by show (0:Int)≤255;omega⟩,⟨z64,z64,h1,h2⟩,zok,zok,Nat.zero_le _,z64⟩
theorem hd_len {zw zh:Int} (h1:I64 zw) (h2:I64 zh):(hdF zw zh).length≤1000:=by
 have:=lin_len _ (hd_wf h1 h2) hedF
 have e:hedF.length=21:=rfl
 have e2:ByteArray.empty.size=0:=rfl
 simp only [e,e2] at this
 unfold hdF
 omega
structure SpW (lo:Nat) (w:World) (zw zh:Int) (l:List St) (n:Nat) (u:Value) (wr:World):Prop where
 ow:OwY lo wr u (hdF zw zh++shpF (l.take n))
 kp:KpY lo w wr
 sz:lo≤wr.heap.size
 ln:(hdF zw zh++shpF (l.take n)).length≤200000000
set_option maxRecDepth 10000 in
set_option maxHeartbeats 8000000 in
theorem shapes_any (lo:Nat) (zw zh:Int) (l:List St) (vl:Value) (w:World) (hlo:lo≤w.heap.size) (hv:∀ W,Below lo w W→LsS W vl l) (hw:Wfs l) (ht:∀ s∈l,s.t.size≤100000) (h1:I64 zw) (h2:I64 zh) (T:PwT lo w) (hll:l.length≤1000000) :
  Calls Tryz.prog 35 #[.slice none 0 0,vl,.agg #[.int .i64 zw,.int .i64 zh]] w fun e w'=>∃ v' R,e = .returned v'∧Hid (OwY lo w' v' R∧KpY lo w w'∧R.length≤1000000000∧(R=texF l zw zh∨(65536<R.length∧65536<(texF l zw zh).length))):=by
 obtain ⟨oa,cap,rfl,hc,_⟩:=hv w (Below.refl _ _)
 have HV:Hid (∀ W,KpY lo w W→LsS W (.slice oa l.length cap) l):=fun W h=>hv W h.b
 have HL:Hid (lo≤w.heap.size∧Wfs l∧(∀ s∈l,s.t.size≤100000)∧I64 zw∧I64 zh∧PwT lo w):=⟨hlo,hw,ht,h1,h2,T⟩
 have HLi:Hid (∀ (u:Value) (ys form:List UInt8) (s:St) W,OwY lo W u ys→KpY lo w W→WfS s→s.t.size≤100000→form.length≤100→ys.length≤200000000→Calls Tryz.prog 65 #[u,.string ⟨form.toArray⟩,(Value.agg #[.int .u8 s.k,.int .i64 s.r.x,.int .i64 s.r.y,.int .i64 s.r.w,.int .i64 s.r.h,.int .u8 s.c.r,.int .u8 s.c.g,.int .u8 s.c.b,.int .u8 s.c.a,.int .u8 s.b.r,.int .u8 s.b.g,.int .u8 s.b.b,.int .u8 s.b.a,.string s.t,.int .i64 s.n])] W fun e w'=>∃ v',e = .returned v'∧OwY lo w' v' (ys++linF form s)∧KpY lo W w'):=fun u ys form s W a1 a2 a3 a4 a5 a6=>by
  have:=line_any lo u ys ⟨form.toArray⟩ s W a1 (Nat.le_trans hlo a2.b.size) a3 (by omega) (by show form.toArray.size≤1000;simp;omega) (by omega) (T.on a2.b)
  simpa using this
 have hI1:=h1.1
 have hI2:=h1.2
 have hI3:=h2.1
 have hI4:=h2.2
 clear hv hlo hw ht h1 h2 T
 have B0:Below w.heap.size w (w.alloc (.cells #[.int .i64 zw,.int .i64 zh] 23)):=(Below.refl _ w).alloc (Nat.le_refl _) _
 have H0:Hid (KpY lo w (w.alloc (.cells #[.int .i64 zw,.int .i64 zh] 23))):=KpY.of_below HL.out.1 B0
 clear B0
 go_enter Tryz.func35,Tryz.ntmps35
 go_wp2_with fail
 refine (HLi.out _ [] hedF ⟨0,⟨0,0,zw,zh⟩,⟨0,0,0,0⟩,⟨0,0,0,0⟩,ByteArray.empty,0⟩ _ (OwY.nil lo _) H0.out (hd_wf HL.out.2.2.2.1 HL.out.2.2.2.2.1) (Nat.zero_le _) (by decide) (Nat.zero_le _)).mono ?_
 rintro e w1 ⟨v1,rfl,h1,h2⟩
 have H1:Hid (SpW lo w zw zh l 0 v1 w1):=⟨by rw [List.take_zero];simpa [shpF,hdF] using h1,H0.out.trans h2,Nat.le_trans HL.out.1 (H0.out.trans h2).b.size,by rw [List.take_zero];have:=hd_len HL.out.2.2.2.1 HL.out.2.2.2.2.1;simp [shpF];omega⟩
 clear h1 h2 H0
 go_wp2_with fail
 go_loopw [0,16] (fun u0 i wr=>∃ (u:Value) (k:Nat),u=u0∧k≤l.length∧i = .int .i64 k∧Hid (SpW lo w zw zh l k u wr)) (fun _ i _=>l.length - (intOf i).toNat)
 case atStart=>exact ⟨v1,0,rfl,Nat.zero_le _,rfl,H1⟩
 case round =>
  obtain ⟨u,k,rfl,hk,rfl,HR⟩:=hrel
  clear H1
  by_cases hlt:k<l.length
  ·obtain ⟨XS,hXS⟩:∃ XS,XS=hdF zw zh++shpF (l.take k):=⟨_,rfl⟩
   obtain ⟨N,hN⟩:∃ N,N=XS.length:=⟨_,rfl⟩
   have hO:wr.ownsRow lo 5 1 u N (Lib.byteCells XS):=by rw [hN,hXS];exact HR.out.ow
   obtain ⟨ou,cu,rfl,hcu,_⟩:=row_val hO
   obtain ⟨oa',cap',e0,_,hg⟩:=HV.out wr HR.out.kp
   injection e0 with e1 e2 e3
   subst e1 e3
   obtain ⟨g,o,rfl,hgl,hat⟩:=hg (by omega)
   have hx:=hat k hlt
   obtain ⟨x,hxe⟩:∃ x,x=l[k]:=⟨_,rfl⟩
   have HX:Hid (WfS x∧x.t.size≤100000∧l.take (k+1)=l.take k++[x]):=⟨by rw [hxe];exact HL.out.2.1 _ (List.getElem_mem _),by rw [hxe];exact HL.out.2.2.1 _ (List.getElem_mem _),by rw [hxe,List.take_succ_eq_append_getElem hlt]⟩
   rw [← hxe] at hx
   obtain ⟨x0,x1,x2,x3,x4,x5,x6,x7,x8,x9,x10,x11,x12,x13,x14⟩:=hx
   have HO:Hid (OwY lo wr (.slice ou N cu) XS∧KpY lo w wr∧lo≤wr.heap.size∧XS=hdF zw zh++shpF (l.take k)∧N=XS.length∧N≤200000000):=⟨by rw [hN] at hO ⊢;exact hO,HR.out.kp,HR.out.sz,hXS,hN,by have:=HR.out.ln;rw [hN,hXS];exact this⟩
   clear hg hat hxe e2 HR hXS hN hO
   by_cases hbig:65536<N
   ·have hbig':65536<(N:Int):=by omega
    have HS:Hid (∀ W,KpY lo wr W→OwY lo W (.slice ou N cu) XS→OwY lo W (.slice ou N cu) XS∧KpY lo w W∧XS.length≤1000000000∧(XS=texF l zw zh∨(65536<XS.length∧65536<(texF l zw zh).length))):=fun W h1 h2=>by
     obtain ⟨_,q2,_,q4,q5,q6⟩:=HO.out
     refine ⟨h2,q2.trans h1,by omega,.inr ⟨by omega,?_⟩⟩
     have e:(shpF l).length=(shpF (l.take k)).length+(shpF (l.drop k)).length:=by rw [← List.length_append,← shpF_app,List.take_append_drop]
     have e2:XS.length=(hdF zw zh).length+(shpF (l.take k)).length:=by rw [q4,List.length_append]
     unfold texF
     rw [List.length_append,List.length_append,e]
     omega
    have BX:Hid (Below wr.heap.size wr (wr.alloc (.cells (#[.int .u8 x.k,.int .i64 x.r.x,.int .i64 x.r.y,.int .i64 x.r.w,.int .i64 x.r.h,.int .u8 x.c.r,.int .u8 x.c.g,.int .u8 x.c.b,.int .u8 x.c.a,.int .u8 x.b.r,.int .u8 x.b.g,.int .u8 x.b.b,.int .u8 x.b.a,.string x.t,.int .i64 x.n]) 55))):=(Below.refl _ _).alloc (Nat.le_refl _) _
    go_wp2
    go_ret
    exact ⟨_,XS,rfl,HS.out _ (KpY.of_below HO.out.2.2.1 BX.out) (HO.out.1.below BX.out)⟩
   ·have hbig':¬ (65536<(N:Int)):=by omega
    have BX:Hid (Below wr.heap.size wr (wr.alloc (.cells (#[.int .u8 x.k,.int .i64 x.r.x,.int .i64 x.r.y,.int .i64 x.r.w,.int .i64 x.r.h,.int .u8 x.c.r,.int .u8 x.c.g,.int .u8 x.c.b,.int .u8 x.c.a,.int .u8 x.b.r,.int .u8 x.b.g,.int .u8 x.b.b,.int .u8 x.b.a,.string x.t,.int .i64 x.n]) 55))∧Bk (wr.alloc (.cells (#[.int .u8 x.k,.int .i64 x.r.x,.int .i64 x.r.y,.int .i64 x.r.w,.int .i64 x.r.h,.int .u8 x.c.r,.int .u8 x.c.g,.int .u8 x.c.b,.int .u8 x.c.a,.int .u8 x.b.r,.int .u8 x.b.g,.int .u8 x.b.b,.int .u8 x.b.a,.string x.t,.int .i64 x.n]) 55)) wr.heap.size (#[.int .u8 x.k,.int .i64 x.r.x,.int .i64 x.r.y,.int .i64 x.r.w,.int .i64 x.r.h,.int .u8 x.c.r,.int .u8 x.c.g,.int .u8 x.c.b,.int .u8 x.c.a,.int .u8 x.b.r,.int .u8 x.b.g,.int .u8 x.b.b,.int .u8 x.b.a,.string x.t,.int .i64 x.n]) 55):=⟨(Below.refl _ _).alloc (Nat.le_refl _) _,Bk.new _ _ _⟩
    have HFo:Hid (∀ W,Calls Tryz.prog 66 #[.int .u8 x.k] W fun e w'=>e = .returned (.string ⟨(forF x.k).toArray⟩)∧w'=W):=fun W=>vform_any x.k W HX.out.1.1.1 HX.out.1.1.2
    go_wp2_with fail
    generalize hX2:wr.alloc (.cells (#[.int .u8 x.k,.int .i64 x.r.x,.int .i64 x.r.y,.int .i64 x.r.w,.int .i64 x.r.h,.int .u8 x.c.r,.int .u8 x.c.g,.int .u8 x.c.b,.int .u8 x.c.a,.int .u8 x.b.r,.int .u8 x.b.g,.int .u8 x.b.b,.int .u8 x.b.a,.string x.t,.int .i64 x.n]) 55)=X2 at *
    obtain ⟨bx,hbx⟩:∃ bx,bx=wr.heap.size:=⟨_,rfl⟩
    have HO2:Hid (OwY lo X2 (.slice ou N cu) XS∧KpY lo w X2∧lo≤X2.heap.size∧XS=hdF zw zh++shpF (l.take k)∧N=XS.length∧N≤200000000∧Bk X2 bx (#[.int .u8 x.k,.int .i64 x.r.x,.int .i64 x.r.y,.int .i64 x.r.w,.int .i64 x.r.h,.int .u8 x.c.r,.int .u8 x.c.g,.int .u8 x.c.b,.int .u8 x.c.a,.int .u8 x.b.r,.int .u8 x.b.g,.int .u8 x.b.b,.int .u8 x.b.a,.string x.t,.int .i64 x.n]) 55):=by
     obtain ⟨q1,q2,q3,q4,q5,q6⟩:=HO.out
     exact ⟨q1.below BX.out.1,q2.trans (KpY.of_below q3 BX.out.1),Nat.le_trans q3 BX.out.1.size,q4,q5,q6,by rw [hbx];exact BX.out.2⟩
    rw [← hbx]
    clear hbx hX2 BX HO x0 x1 x2 x3 x4 x5 x6 x7 x8 x9 x10 x11 x12 x13 x14 hgl hcu
    refine R4.wp_region_lit 5 0 2 (fun _ _=>undef) (fun _=>.cells #[] 0) [] (by kernel_rfl) (by kernel_rfl) rfl (fun k hk=>absurd hk (by omega)) rfl ?_
    apply Exists.intro
    refine ⟨fun bs ne=>?_,fun i h1 h2=>absurd h2 (by omega),?_⟩
    ·have q:=fun tt:Gb X2 bs=>bk15 (HO2.out.2.2.2.2.2.2.below tt.below)
     have x0:=fun tt:Gb X2 bs=>(q tt).1
     have x1:=fun tt:Gb X2 bs=>(q tt).2.1
     have x2:=fun tt:Gb X2 bs=>(q tt).2.2.1
     have x3:=fun tt:Gb X2 bs=>(q tt).2.2.2.1
     have x4:=fun tt:Gb X2 bs=>(q tt).2.2.2.2.1
     have x5:=fun tt:Gb X2 bs=>(q tt).2.2.2.2.2.1
     have x6:=fun tt:Gb X2 bs=>(q tt).2.2.2.2.2.2.1
     have x7:=fun tt:Gb X2 bs=>(q tt).2.2.2.2.2.2.2.1
     have x8:=fun tt:Gb X2 bs=>(q tt).2.2.2.2.2.2.2.2.1
     have x9:=fun tt:Gb X2 bs=>(q tt).2.2.2.2.2.2.2.2.2.1
     have x10:=fun tt:Gb X2 bs=>(q tt).2.2.2.2.2.2.2.2.2.2.1
     have x11:=fun tt:Gb X2 bs=>(q tt).2.2.2.2.2.2.2.2.2.2.2.1
     have x12:=fun tt:Gb X2 bs=>(q tt).2.2.2.2.2.2.2.2.2.2.2.2.1
     have x13:=fun tt:Gb X2 bs=>(q tt).2.2.2.2.2.2.2.2.2.2.2.2.2.1
     have x14:=fun tt:Gb X2 bs=>(q tt).2.2.2.2.2.2.2.2.2.2.2.2.2.2
     simp only [Nat.zero_add] at x0 x1 x2 x3 x4 x5 x6 x7 x8 x9 x10 x11 x12 x13 x14
     clear q
     simp only [List.take_succ_cons,List.take_zero]
     repeat (go_big_quiet_step (first | (go_at_call 66;exact gb_same (HFo.out _))))
     exact wpQuiet_nil rfl
    ·intro bl wx hbl _ _
     have HX3:Hid (Below X2.heap.size X2 wx):=hbl
     simp only [R4.layL]
     clear hbl
     refine wpAny_one 5 (by kernel_rfl) rfl ?_
     intro K hK
     go_simp
     have HK:Hid (KpY lo w wx):=HO2.out.2.1.trans (KpY.of_below HO2.out.2.2.1 HX3.out)
     refine (HLi.out _ XS (forF x.k) x wx (HO2.out.1.below HX3.out) HK.out HX.out.1 HX.out.2.1 (forF_len _) (by have:=HO2.out.2.2.2.2;omega)).mono ?_
     rintro e w3 ⟨v3,rfl,h1,h2⟩
     have HF:Hid (SpW lo w zw zh l (k+1) v3 w3):=by
      have q:=HK.out.trans h2
      obtain ⟨_,_,_,q4,q5,q6,_⟩:=HO2.out
      have e:hdF zw zh++shpF (l.take (k+1))=XS++linF (forF x.k) x:=by rw [HX.out.2.2,shpF_app,← List.append_assoc,← q4];congr 1;simp [shpF,strF]
      have sl:=strF_len x HX.out.1 HX.out.2.1
      unfold strF at sl
      exact ⟨by rw [e];exact h1,q,Nat.le_trans HL.out.1 q.b.size,by rw [e,List.length_append];omega⟩
     clear h1 h2 HK HX3 HO2
     refine hK _ _ ?_
     clear hK K
     refine wpAny_one 6 (by kernel_rfl) rfl ?_
     intro K hK
     go_simp
     refine hK _ _ ?_
     clear hK K
     refine wpAny_done (by kernel_rfl) ?_ _
     go_wp2
     go_roundw
     case rel=>exact ⟨v3,k+1,rfl,by omega,by go_num,HF⟩
     case measure=>simp [intOf];omega
  ·obtain rfl:k=l.length:=by omega
   have HO:Hid (OwY lo wr u (hdF zw zh++shpF l)∧KpY lo w wr∧lo≤wr.heap.size∧(hdF zw zh++shpF l).length≤200000000):=by
    have q:=HR.out
    have q1:=q.ow
    have q4:=q.ln
    rw [List.take_length] at q1 q4
    exact ⟨q1,q.kp,q.sz,q4⟩
   clear HR
   go_wp2_with (at_builtin;refine app_txt rfl _ _ rfl lo u (hdF zw zh++shpF l) ⟨lstF.toArray⟩ rfl HO.out.1 rfl HO.out.2.2.1 (by have:=HO.out.2.2.2;have e:(⟨lstF.toArray⟩:ByteArray).size=10:=rfl;omega) ?_)
   intro v1 w2 h1 h2
   have HF:Hid (OwY lo w2 v1 (texF l zw zh)∧KpY lo w w2∧(texF l zw zh).length≤1000000000):=⟨by unfold texF;rw [List.append_assoc];exact h1,HO.out.2.1.trans h2,by unfold texF;rw [List.length_append];have:=HO.out.2.2.2;have e:lstF.length=10:=rfl;omega⟩
   clear h1 h2 HO
   go_wp2
   go_ret
   exact ⟨_,texF l zw zh,rfl,HF.out.1,HF.out.2.1,HF.out.2.2,.inl rfl⟩
end Go.Proofs.YtapachlhdgehjaaGreatDoor

/- Contracts of package vector: sizeMayBe, Text, Escape. -/
namespace Go.Proofs.YtapachlhdgehjaaGreatDoor
open Go.RowKit
set_option maxHeartbeats 1000000 in
theorem siz_any (zw zh:Int) (w:World) (h1:I64 zw) (h2:I64 zh) :
  Calls Tryz.prog 34 #[.agg #[.int .i64 zw,.int .i64 zh]] w fun e w'=>e = .returned (.bool (sizB zw zh))∧Below w.heap.size w w':=by
 have hI1:=h1.1
 have hI2:=h1.2
 have hI3:=h2.1
 have hI4:=h2.2
 have B0:Hid (Below w.heap.size w (w.alloc (.cells #[.int .i64 zw,.int .i64 zh] 23))):=(Below.refl _ w).alloc (Nat.le_refl _) _
 go_enter Tryz.func34,Tryz.ntmps34
 go_wp2
 all_goals
  go_ret
  refine ⟨ret_bool ?_,B0.out⟩
  simp [sizB]
  try omega
theorem conv_bytes {w:World} {lo:Nat} {v:Value} {l:List UInt8} (h:OwY lo w v l):(convert 77 9 v).run Tryz.prog w = .ok (.string ⟨l.toArray⟩) w:=by
 obtain ⟨hl,⟨rfl,h0⟩ | ⟨g,cap,cur,rfl,_⟩⟩:=id h
 ·obtain rfl:l=[]:=List.length_eq_zero_iff.1 h0
  exact Lib.run_convert_nil_bytes w 77 9 5 0 Tryz.underlying77 Tryz.underlying5 Tryz.underlying9
 ·exact conv_own l h rfl (fun j hj=>byteCells_at l j hj)
theorem xys_of {l:List St} (h:Wfs l):Xys l:=fun s hs=>⟨(h s hs).2.1.1,(h s hs).2.1.2.1⟩
theorem clp_small:∀ (n:Nat) (l:List St),clpE n l=0→∀ s∈l,s.t.size≤65536
 | _,[],_,s,hs=>by cases hs
 | n,x :: l,h,s,hs=>by
  obtain ⟨h1,_,h3⟩:=clpE_cons h
  rcases List.mem_cons.1 hs with rfl | hs
  ·unfold oneE at h1
   split at h1
   ·cases h1
   ·next hh =>
    have h3:wroK s=false:=by
     cases e:wroK s
     ·rfl
     ·rw [e] at hh;simp at hh
    unfold wroK at h3
    simp at h3
    omega
  ·exact clp_small _ l h3 s hs
theorem chk_small {l:List St} (h:chkS l=0):(∀ s∈l,s.t.size≤65536)∧l.length≤16384 :=
 ⟨clp_small 0 l (chkS_zero h).2,(chkS_zero h).1⟩
def PwI (w : World) : Prop := Lib.TabIs Tryz.prog w "internal/strconv.uint64pow10" .u64 Lib.pow10Tab
theorem PwI.at {w w3:World} (h:PwI w) (hb:Below w.heap.size w w3):PwT w3.heap.size w3 :=
 PwT.mono (PwT.on (Lib.tabBelow_of_tabIs h) hb) hb.size
theorem PwI.below {w w3:World} (h:PwI w) (hb:Below w.heap.size w w3):PwI w3:=Lib.tabBelow_of_tabIs h w3 hb
set_option maxRecDepth 10000 in
set_option maxHeartbeats 4000000 in
theorem vtext_any (l:List St) (vl:Value) (zw zh:Int) (w:World) (hv:LsS w vl l) (hw:Wfs l) (h1:I64 zw) (h2:I64 zh) (T:PwI w) :
  Calls Tryz.prog 12 #[vl,.agg #[.int .i64 zw,.int .i64 zh]] w fun e w'=>e = .returned (.tuple #[.string ⟨(texT l zw zh).toArray⟩,.int .i64 (texE l zw zh)])∧Below w.heap.size w w':=by
 have HC:Hid (∀ W,Below w.heap.size w W→Calls Tryz.prog 15 #[vl] W fun e w'=>e = .returned (.int .i64 (chkS l))∧Below W.heap.size W w'):=fun W hb=>lcheck_any l vl W (hv.below hb) hw.txs (xys_of hw)
 have HZ:Hid (∀ W,Calls Tryz.prog 34 #[.agg #[.int .i64 zw,.int .i64 zh]] W fun e w'=>e = .returned (.bool (sizB zw zh))∧Below W.heap.size W w'):=fun W=>siz_any zw zh W h1 h2
 have HS:Hid (∀ W,Below w.heap.size w W→chkS l=0→Calls Tryz.prog 35 #[.slice none 0 0,vl,.agg #[.int .i64 zw,.int .i64 zh]] W fun e w'=>∃ v' R,e = .returned v'∧Hid (OwY W.heap.size w' v' R∧KpY W.heap.size W w'∧R.length≤1000000000∧(R=texF l zw zh∨(65536<R.length∧65536<(texF l zw zh).length)))):=fun W hb h0=>by
  obtain ⟨c1,c2⟩:=chk_small h0
  exact shapes_any W.heap.size zw zh l vl W (Nat.le_refl _) (fun W' hb'=>(hv.below hb).below hb') hw (fun s hs=>by have:=c1 s hs;omega) h1 h2 (T.at hb) (by omega)
 have B0:Hid (Below w.heap.size w (w.alloc (.cells #[.int .i64 zw,.int .i64 zh] 23))∧(w.alloc (.cells #[.int .i64 zw,.int .i64 zh] 23)).cell? ⟨w.heap.size,0,none⟩=some (.int .i64 zw)∧(w.alloc (.cells #[.int .i64 zw,.int .i64 zh] 23)).cell? ⟨w.heap.size,1,none⟩=some (.int .i64 zh)):=⟨(Below.refl _ w).alloc (Nat.le_refl _) _,(Bk.new w _ _).at2⟩
 clear hv hw h1 h2 T
 by_cases hc:chkS l=0
 ·have hE:texE l zw zh=if sizB zw zh=false then 9 else if 65536<(texF l zw zh).length then 3 else 0:=by unfold texE;rw [if_neg (by simp [hc])]
  have HS':Hid (∀ W,Below w.heap.size w W→Calls Tryz.prog 35 #[.slice none 0 0,vl,.agg #[.int .i64 zw,.int .i64 zh]] W fun e w'=>∃ v' R,e = .returned v'∧Hid (OwY W.heap.size w' v' R∧KpY W.heap.size W w'∧R.length≤1000000000∧(R=texF l zw zh∨(65536<R.length∧65536<(texF l zw zh).length)))):=fun W hb=>HS.out W hb hc
  have HE:Hid (texE l zw zh=if sizB zw zh=false then 9 else if 65536<(texF l zw zh).length then 3 else 0):=hE
  have HTt:Hid (texT l zw zh=if texE l zw zh=0 then texF l zw zh else []):=rfl
  rw [hc] at HC
  generalize texE l zw zh=E at *
  generalize texT l zw zh=Tt at *
  clear HS hc hE
  go_enter Tryz.func12,Tryz.ntmps12
  go_wp2_with fail
  refine (HC.out _ B0.out.1).mono ?_
  rintro e w1 ⟨rfl,hb1⟩
  have H1:Hid (Below w.heap.size w w1):=B0.out.1.trans (hb1.mono B0.out.1.size)
  have c0:w1.cell? ⟨w.heap.size,0,none⟩=some (.int .i64 zw):=(hb1.cell (p:=⟨w.heap.size,0,none⟩) (by simp)).trans B0.out.2.1
  have c1:w1.cell? ⟨w.heap.size,1,none⟩=some (.int .i64 zh):=(hb1.cell (p:=⟨w.heap.size,1,none⟩) (by simp)).trans B0.out.2.2
  have hlt:w.heap.size<w1.heap.size:=Nat.lt_of_lt_of_le (by simp) hb1.size
  clear hb1 B0 HC
  go_wp2_with fail
  refine (HZ.out _).mono ?_
  rintro e w2 ⟨rfl,hb2⟩
  have H2:Hid (Below w.heap.size w w2):=H1.out.trans (hb2.mono H1.out.size)
  have d0:w2.cell? ⟨w.heap.size,0,none⟩=some (.int .i64 zw):=(hb2.cell (p:=⟨w.heap.size,0,none⟩) hlt).trans c0
  have d1:w2.cell? ⟨w.heap.size,1,none⟩=some (.int .i64 zh):=(hb2.cell (p:=⟨w.heap.size,1,none⟩) hlt).trans c1
  clear hb2 H1 HZ c0 c1 hlt
  cases hz:sizB zw zh with
  | false =>
   rw [hz] at HE
   obtain rfl:E=9:=HE.out
   obtain rfl:Tt=[]:=HTt.out
   go_wp2
   go_ret2
   exact ⟨rfl,H2.out⟩
  | true =>
   rw [hz] at HE
   go_wp2_with fail
   refine (HS'.out _ H2.out).mono ?_
   rintro e w3 ⟨v3,R,rfl,h3⟩
   have hO:w3.ownsRow w2.heap.size 5 1 v3 R.length (Lib.byteCells R):=h3.out.1
   have hcv:=conv_bytes h3.out.1
   obtain ⟨ou,cu,rfl,hcu,_⟩:=row_val hO
   have H3:Hid (Below w.heap.size w w3∧R.length≤1000000000∧(R=texF l zw zh∨(65536<R.length∧65536<(texF l zw zh).length))):=⟨H2.out.trans (h3.out.2.1.b.mono H2.out.size),h3.out.2.2⟩
   clear hO h3 H2 HS' d0 d1
   obtain ⟨N,hN⟩:∃ N,N=R.length:=⟨_,rfl⟩
   rw [← hN] at hcv hcu H3 ⊢
   by_cases hbig:65536<N
   ·have hb1:65536<(N:Int):=by omega
    have e3:E=3:=by
     rw [HE.out,if_neg (by decide),if_pos]
     rcases H3.out.2.2 with h | h
     ·rw [← h];omega
     ·exact h.2
    subst e3
    obtain rfl:Tt=[]:=HTt.out
    go_wp2
    go_ret2
    exact ⟨rfl,H3.out.1⟩
   ·have hb1:¬ (65536<(N:Int)):=by omega
    have eR:R=texF l zw zh:=by
     rcases H3.out.2.2 with h | h
     ·exact h
     ·omega
    have e0:E=0:=by rw [HE.out,if_neg (by decide),if_neg (by rw [← eR];omega)]
    subst e0
    have eT:Tt=R:=by rw [HTt.out,if_pos rfl,eR]
    subst eT
    clear HE HTt eR hN
    go_wp2
    go_ret2
    exact ⟨rfl,H3.out.1⟩
 ·have hE:texE l zw zh=chkS l:=by unfold texE;rw [if_pos hc]
  have hTt:texT l zw zh=[]:=by unfold texT;rw [if_neg (by rw [hE];exact hc)]
  rw [hE,hTt]
  clear hE hTt HS
  have hc':((chkS l)==0)=false:=by rw [beq_eq_false_iff_ne];exact hc
  generalize chkS l=E at *
  go_enter Tryz.func12,Tryz.ntmps12
  go_wp2_with fail
  refine (HC.out _ B0.out.1).mono ?_
  rintro e w1 ⟨rfl,hb1⟩
  have H1:Hid (Below w.heap.size w w1):=B0.out.1.trans (hb1.mono B0.out.1.size)
  clear hb1 B0 HC
  go_wp2
  go_ret2
  exact ⟨rfl,H1.out⟩
end Go.Proofs.YtapachlhdgehjaaGreatDoor

/- A size that came in, written out; the program's own settings; the table of the library's numbers. -/
namespace Go.Proofs.YtapachlhdgehjaaGreatDoor
open Go.ChangeShapes Go.WideShapes Go.ChangeAt Go.RowKit Go.Joins
theorem own_w:ownKnob Tryz.prog.godebug=none:=by kernel_rfl
theorem laid_w:laidOutB Tryz.prog=true:=by kernel_rfl
set_option maxRecDepth 100000 in
theorem open_siz {H:Type} {enc:TypeId × Value→H} {W:World} {base b:Nat} {sp:Nat→Bool} {held:Bool} {v:Value} {d:DataW H} {p:List MemPlace}
  (hv:Value.okWide Tryz.prog W .any base 23 v) (h:DataW.Trod enc Tryz.prog W b sp held 23 v d p):∃ x y:Int,v = .agg #[.int .i64 x,.int .i64 y]∧I64 x∧I64 y:=by
 obtain ⟨c0,c1,y0,y1,m,rfl,rfl,rfl,hy0,hy1⟩:=open_agg2 Tryz.underlying23 (by kernel_rfl) cells_s hv h
 obtain ⟨a,e0,rfl,wa⟩:=DataW.trod_int Tryz.underlying3 hy0
 obtain ⟨c,e1,rfl,wc⟩:=DataW.trod_int Tryz.underlying3 hy1
 simp at e0 e1
 subst e0 e1
 exact ⟨a,c,rfl,i64_of wa,i64_of wc⟩
theorem pow_eq:Rows.laid_internal_strconv_uint64pow10 (H:=Unit)=Lib.tabData .u64 Lib.pow10Tab:=by kernel_rfl
theorem pw_of {W : World} {l : List (String × DataW Unit)} (hm : ("internal/strconv.uint64pow10", Rows.laid_internal_strconv_uint64pow10) ∈ l) (hL : laidMet Tryz.prog l W) : PwI W := by
 have r2 : Lib.VarReads Tryz.prog W "internal/strconv.uint64pow10" (Lib.tabData .u64 Lib.pow10Tab) := pow_eq ▸ Lib.laidMet.reads hL hm
 obtain ⟨g',t,cs,fuel,p,hg,hty,hvar,hd⟩:=r2
 obtain rfl := Option.some.inj ((show Tryz.prog.globalNamed "internal/strconv.uint64pow10" = some 7 by kernel_rfl).symm.trans hg)
 obtain rfl:=Option.some.inj ((show (Tryz.prog.globals[7]?).map (·.type)=some 283 by kernel_rfl).symm.trans hty)
 unfold PwI Lib.TabIs
 rw [hvar,← Lib.cells_of_tab Tryz.underlying283 Tryz.underlying181 (by kernel_rfl) (by kernel_rfl) hd]
end Go.Proofs.YtapachlhdgehjaaGreatDoor
