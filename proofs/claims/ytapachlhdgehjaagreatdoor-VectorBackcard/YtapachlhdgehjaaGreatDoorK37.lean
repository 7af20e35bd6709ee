/- Contracts of package vector's reader: told. -/
import Derived.Test.YtapachlhdgehjaaGreatDoorK36
import Derived.Test.YtapachlhdgehjaaGreatDoorK33
namespace Go.Proofs.YtapachlhdgehjaaGreatDoor
open Go.RowKit
def zSo:St:=⟨0,⟨0,0,0,0⟩,⟨0,0,0,0⟩,⟨0,0,0,0⟩,⟨#[]⟩,0⟩
def tdL (c:Nat) (r:List UInt8) (st:St):Nat ⊕ (St × Nat) :=
 if c=88 then (match nuL r with | some n=>.inr ({ st with r:={ st.r with x:=n } },(pcN r).length) | none=>.inl 0)
 else if c=89 then (match nuL r with | some n=>.inr ({ st with r:={ st.r with y:=n } },(pcN r).length) | none=>.inl 0)
 else if c=87 then (match nuL r with | some n=>.inr ({ st with r:={ st.r with w:=n } },(pcN r).length) | none=>.inl 0)
 else if c=72 then (match nuL r with | some n=>.inr ({ st with r:={ st.r with h:=n } },(pcN r).length) | none=>.inl 0)
 else if c=67 then (match coL r with | some n=>.inr ({ st with c:=n },(pcC r).length) | none=>.inl 0)
 else if c=66 then (match coL r with | some n=>.inr ({ st with b:=n },(pcC r).length) | none=>.inl 0)
 else if c=78 then (match nuL r with | some n=>.inr ({ st with n:=n },(pcN r).length) | none=>.inl 0)
 else if c=84 then (if (esA r).2.2=0 then .inr ({ st with t:=⟨(esA r).1.toArray⟩ },(pcE r).length) else .inl (esA r).2.1)
 else .inr (st,0)
def TdQ (b sb:Nat) (s:ByteArray) (p:Nat) (R:Nat ⊕ (St × Nat)) (w:World) (e:Ending) (w':World):Prop :=
 match R with
 | .inr (st',n)=>e = .returned .nilIface∧Rd w' b s (p+n)∧Bk w' sb (#[.int .u8 st'.k,.int .i64 st'.r.x,.int .i64 st'.r.y,.int .i64 st'.r.w,.int .i64 st'.r.h,.int .u8 st'.c.r,.int .u8 st'.c.g,.int .u8 st'.c.b,.int .u8 st'.c.a,.int .u8 st'.b.r,.int .u8 st'.b.g,.int .u8 st'.b.b,.int .u8 st'.b.a,.string st'.t,.int .i64 st'.n]) 55∧Kp2 b sb w w'
 | .inl o=>∃ (v:Value) (st':St),e = .returned v∧IsW w.heap.size w' v (p+o)∧Rd w' b s p∧Bk w' sb (#[.int .u8 st'.k,.int .i64 st'.r.x,.int .i64 st'.r.y,.int .i64 st'.r.w,.int .i64 st'.r.h,.int .u8 st'.c.r,.int .u8 st'.c.g,.int .u8 st'.c.b,.int .u8 st'.c.a,.int .u8 st'.b.r,.int .u8 st'.b.g,.int .u8 st'.b.b,.int .u8 st'.b.a,.string st'.t,.int .i64 st'.n]) 55∧Kp2 b sb w w'
theorem bk15f {W:World} {b:Nat} {s:St} {t:TypeId} (h:Bk W b (#[.int .u8 s.k,.int .i64 s.r.x,.int .i64 s.r.y,.int .i64 s.r.w,.int .i64 s.r.h,.int .u8 s.c.r,.int .u8 s.c.g,.int .u8 s.c.b,.int .u8 s.c.a,.int .u8 s.b.r,.int .u8 s.b.g,.int .u8 s.b.b,.int .u8 s.b.a,.string s.t,.int .i64 s.n]) t):∀ o,W.frozen? ⟨b,o,none⟩=false:=fun o=>Bk.frozen h o
theorem isw_iface {lo:Nat} {w:World} {v:Value} {p:Nat} (h:IsW lo w v p):∃ g,v = .iface 163 (.pointer (some ⟨g,0,none⟩)):=by
 obtain ⟨g,_,_,h1,_⟩:=h
 exact ⟨g,h1⟩
set_option maxRecDepth 10000 in
set_option maxHeartbeats 16000000 in
theorem toldR_any (B b sb c:Nat) (s:ByteArray) (p:Nat) (st:St) (w:World) (h:Rd w b s p) (hp:p≤s.size) (hs:s.size≤100000) (hE:EnR B w) (hB:B≤b) (hS:Bk w sb (#[.int .u8 st.k,.int .i64 st.r.x,.int .i64 st.r.y,.int .i64 st.r.w,.int .i64 st.r.h,.int .u8 st.c.r,.int .u8 st.c.g,.int .u8 st.c.b,.int .u8 st.c.a,.int .u8 st.b.r,.int .u8 st.b.g,.int .u8 st.b.b,.int .u8 st.b.a,.string st.t,.int .i64 st.n]) 55) (hne:sb≠b) (hc:c<256) :
  Calls Tryz.prog 103 #[.pointer (some ⟨b,0,none⟩),.int .u8 ((c:Nat):Int),.pointer (some ⟨sb,0,none⟩)] w fun e w'=>TdQ b sb s p (tdL c (rsL s p) st) w e w':=by
 have HN:Hid (Calls Tryz.prog 140 #[.pointer (some ⟨b,0,none⟩)] w fun e w'=>NuQ b s p w e w'):=number_any B b s p w h hp hs hE hB
 have HCo:Hid (Calls Tryz.prog 141 #[.pointer (some ⟨b,0,none⟩)] w fun e w'=>CoQ b s p w e w'):=colourR_any b s p w h hp hs
 have HE:Hid (Calls Tryz.prog 142 #[.pointer (some ⟨b,0,none⟩)] w fun e w'=>EsQ b s p w e w'):=escaped_any B b s p w h hp hs hE hB
 have HS:Hid (Bk w sb (#[.int .u8 st.k,.int .i64 st.r.x,.int .i64 st.r.y,.int .i64 st.r.w,.int .i64 st.r.h,.int .u8 st.c.r,.int .u8 st.c.g,.int .u8 st.c.b,.int .u8 st.c.a,.int .u8 st.b.r,.int .u8 st.b.g,.int .u8 st.b.b,.int .u8 st.b.a,.string st.t,.int .i64 st.n]) 55∧b<w.heap.size∧sb<w.heap.size∧Rd w b s p):=⟨hS,Bk.lt h,Bk.lt hS,h⟩
 have hne2:¬ sb=b:=hne
 have hne3:¬ b=sb:=fun e=>hne e.symm
 clear h hp hs hE hB hS hne
 obtain ⟨r,hr⟩:∃ r,r=rsL s p:=⟨_,rfl⟩
 unfold NuQ at HN
 unfold CoQ at HCo
 unfold EsQ at HE
 rw [← hr] at HN HCo HE ⊢
 clear hr
 by_cases c88:c=88
 ·subst c88
  cases hn:nuL r with
  | some n =>
   have hT:tdL 88 r st = .inr ({ st with r:={ st.r with x:=n } },(pcN r).length):=by unfold tdL;rw [if_pos rfl];rw [hn]
   rw [hT]
   rw [hn] at HN
   clear hT hn
   go_enter Tryz.func103,Tryz.ntmps103
   go_wp2_with fail
   refine HN.out.mono ?_
   rintro e w1 ⟨rfl,hR,hK⟩
   have HQ:Hid (True∧Rd w1 b s (p+(pcN r).length)∧Bk w1 sb (#[.int .u8 st.k,.int .i64 st.r.x,.int .i64 st.r.y,.int .i64 st.r.w,.int .i64 st.r.h,.int .u8 st.c.r,.int .u8 st.c.g,.int .u8 st.c.b,.int .u8 st.c.a,.int .u8 st.b.r,.int .u8 st.b.g,.int .u8 st.b.b,.int .u8 st.b.a,.string st.t,.int .i64 st.n]) 55∧Kp2 b sb w w1):=⟨trivial,hR,Kp2.bk hK HS.out.1 hne2 hne2,hK.one⟩
   clear hR hK HN HCo HE
   obtain ⟨x0,x1,x2,x3,x4,x5,x6,x7,x8,x9,x10,x11,x12,x13,x14⟩:=bk15 HQ.out.2.2.1
   simp only [Nat.zero_add] at x1 x2 x3 x4 x5 x6 x7 x8 x9 x10 x11 x12 x13 x14
   have f1:=bk15f HQ.out.2.2.1 1
   have HF:Hid (∀ W,W=(w1).setCell ⟨sb,1,none⟩ (.int .i64 n)→Rd W b s (p+(pcN r).length)∧Bk W sb (#[.int .u8 ({ st with r:={ st.r with x:=n } }:St).k,.int .i64 ({ st with r:={ st.r with x:=n } }:St).r.x,.int .i64 ({ st with r:={ st.r with x:=n } }:St).r.y,.int .i64 ({ st with r:={ st.r with x:=n } }:St).r.w,.int .i64 ({ st with r:={ st.r with x:=n } }:St).r.h,.int .u8 ({ st with r:={ st.r with x:=n } }:St).c.r,.int .u8 ({ st with r:={ st.r with x:=n } }:St).c.g,.int .u8 ({ st with r:={ st.r with x:=n } }:St).c.b,.int .u8 ({ st with r:={ st.r with x:=n } }:St).c.a,.int .u8 ({ st with r:={ st.r with x:=n } }:St).b.r,.int .u8 ({ st with r:={ st.r with x:=n } }:St).b.g,.int .u8 ({ st with r:={ st.r with x:=n } }:St).b.b,.int .u8 ({ st with r:={ st.r with x:=n } }:St).b.a,.string ({ st with r:={ st.r with x:=n } }:St).t,.int .i64 ({ st with r:={ st.r with x:=n } }:St).n]) 55∧Kp2 b sb w W):=fun W hW=>by
    subst hW
    obtain ⟨_,q1,q2,q3⟩:=HQ.out
    exact ⟨(Bk.other q1 ⟨sb,1,none⟩ _ hne2),(Bk.put q2 1 (.int .i64 n)),(q3.trans (Kp2.put2 _ _ _ _ _))⟩
   clear HQ HS
   go_wp2
   go_ret
   exact ⟨rfl,HF.out _ rfl⟩
  | none =>
   have hT:tdL 88 r st = .inl 0:=by unfold tdL;rw [if_pos rfl];rw [hn]
   rw [hT]
   rw [hn] at HN
   clear hT hn
   go_enter Tryz.func103,Tryz.ntmps103
   go_wp2_with fail
   refine HN.out.mono ?_
   rintro e w1 ⟨v,rfl,hv,hR,hK⟩
   have HQ:Hid (IsW w.heap.size w1 v p∧Rd w1 b s p∧Bk w1 sb (#[.int .u8 st.k,.int .i64 st.r.x,.int .i64 st.r.y,.int .i64 st.r.w,.int .i64 st.r.h,.int .u8 st.c.r,.int .u8 st.c.g,.int .u8 st.c.b,.int .u8 st.c.a,.int .u8 st.b.r,.int .u8 st.b.g,.int .u8 st.b.b,.int .u8 st.b.a,.string st.t,.int .i64 st.n]) 55∧Kp2 b sb w w1):=⟨hv,hR,Kp2.bk hK HS.out.1 hne2 hne2,hK.one⟩
   clear hv hR hK HN HCo HE
   obtain ⟨x0,x1,x2,x3,x4,x5,x6,x7,x8,x9,x10,x11,x12,x13,x14⟩:=bk15 HQ.out.2.2.1
   simp only [Nat.zero_add] at x1 x2 x3 x4 x5 x6 x7 x8 x9 x10 x11 x12 x13 x14
   have f1:=bk15f HQ.out.2.2.1 1
   have HF:Hid (∀ W,W=(w1).setCell ⟨sb,1,none⟩ (.int .i64 0)→IsW w.heap.size W v (p+0)∧Rd W b s p∧Bk W sb (#[.int .u8 ({ st with r:={ st.r with x:=0 } }:St).k,.int .i64 ({ st with r:={ st.r with x:=0 } }:St).r.x,.int .i64 ({ st with r:={ st.r with x:=0 } }:St).r.y,.int .i64 ({ st with r:={ st.r with x:=0 } }:St).r.w,.int .i64 ({ st with r:={ st.r with x:=0 } }:St).r.h,.int .u8 ({ st with r:={ st.r with x:=0 } }:St).c.r,.int .u8 ({ st with r:={ st.r with x:=0 } }:St).c.g,.int .u8 ({ st with r:={ st.r with x:=0 } }:St).c.b,.int .u8 ({ st with r:={ st.r with x:=0 } }:St).c.a,.int .u8 ({ st with r:={ st.r with x:=0 } }:St).b.r,.int .u8 ({ st with r:={ st.r with x:=0 } }:St).b.g,.int .u8 ({ st with r:={ st.r with x:=0 } }:St).b.b,.int .u8 ({ st with r:={ st.r with x:=0 } }:St).b.a,.string ({ st with r:={ st.r with x:=0 } }:St).t,.int .i64 ({ st with r:={ st.r with x:=0 } }:St).n]) 55∧Kp2 b sb w W):=fun W hW=>by
    subst hW
    obtain ⟨q0,q1,q2,q3⟩:=HQ.out
    have hs:=HS.out
    exact ⟨IsW.keep (b:=b) (c:=sb) q0 ((Kp2.refl _ _ _).trans (Kp2.put2 _ _ _ _ _)) hs.2.1 hs.2.2.1,(Bk.other q1 ⟨sb,1,none⟩ _ hne2),(Bk.put q2 1 (.int .i64 0)),(q3.trans (Kp2.put2 _ _ _ _ _))⟩
   clear HQ HS
   go_wp2
   go_ret
   exact ⟨v,({ st with r:={ st.r with x:=0 } }:St),rfl,HF.out _ rfl⟩
 by_cases c89:c=89
 ·subst c89
  cases hn:nuL r with
  | some n =>
   have hT:tdL 89 r st = .inr ({ st with r:={ st.r with y:=n } },(pcN r).length):=by unfold tdL;rw [if_neg (by decide),if_pos rfl];rw [hn]
   rw [hT]
   rw [hn] at HN
   clear hT hn
   go_enter Tryz.func103,Tryz.ntmps103
   go_wp2_with fail
   refine HN.out.mono ?_
   rintro e w1 ⟨rfl,hR,hK⟩
   have HQ:Hid (True∧Rd w1 b s (p+(pcN r).length)∧Bk w1 sb (#[.int .u8 st.k,.int .i64 st.r.x,.int .i64 st.r.y,.int .i64 st.r.w,.int .i64 st.r.h,.int .u8 st.c.r,.int .u8 st.c.g,.int .u8 st.c.b,.int .u8 st.c.a,.int .u8 st.b.r,.int .u8 st.b.g,.int .u8 st.b.b,.int .u8 st.b.a,.string st.t,.int .i64 st.n]) 55∧Kp2 b sb w w1):=⟨trivial,hR,Kp2.bk hK HS.out.1 hne2 hne2,hK.one⟩
   clear hR hK HN HCo HE
   obtain ⟨x0,x1,x2,x3,x4,x5,x6,x7,x8,x9,x10,x11,x12,x13,x14⟩:=bk15 HQ.out.2.2.1
   simp only [Nat.zero_add] at x1 x2 x3 x4 x5 x6 x7 x8 x9 x10 x11 x12 x13 x14
   have f2:=bk15f HQ.out.2.2.1 2
   have HF:Hid (∀ W,W=(w1).setCell ⟨sb,2,none⟩ (.int .i64 n)→Rd W b s (p+(pcN r).length)∧Bk W sb (#[.int .u8 ({ st with r:={ st.r with y:=n } }:St).k,.int .i64 ({ st with r:={ st.r with y:=n } }:St).r.x,.int .i64 ({ st with r:={ st.r with y:=n } }:St).r.y,.int .i64 ({ st with r:={ st.r with y:=n } }:St).r.w,.int .i64 ({ st with r:={ st.r with y:=n } }:St).r.h,.int .u8 ({ st with r:={ st.r with y:=n } }:St).c.r,.int .u8 ({ st with r:={ st.r with y:=n } }:St).c.g,.int .u8 ({ st with r:={ st.r with y:=n } }:St).c.b,.int .u8 ({ st with r:={ st.r with y:=n } }:St).c.a,.int .u8 ({ st with r:={ st.r with y:=n } }:St).b.r,.int .u8 ({ st with r:={ st.r with y:=n } }:St).b.g,.int .u8 ({ st with r:={ st.r with y:=n } }:St).b.b,.int .u8 ({ st with r:={ st.r with y:=n } }:St).b.a,.string ({ st with r:={ st.r with y:=n } }:St).t,.int .i64 ({ st with r:={ st.r with y:=n } }:St).n]) 55∧Kp2 b sb w W):=fun W hW=>by
    subst hW
    obtain ⟨_,q1,q2,q3⟩:=HQ.out
    exact ⟨(Bk.other q1 ⟨sb,2,none⟩ _ hne2),(Bk.put q2 2 (.int .i64 n)),(q3.trans (Kp2.put2 _ _ _ _ _))⟩
   clear HQ HS
   go_wp2
   go_ret
   exact ⟨rfl,HF.out _ rfl⟩
  | none =>
   have hT:tdL 89 r st = .inl 0:=by unfold tdL;rw [if_neg (by decide),if_pos rfl];rw [hn]
   rw [hT]
   rw [hn] at HN
   clear hT hn
   go_enter Tryz.func103,Tryz.ntmps103
   go_wp2_with fail
   refine HN.out.mono ?_
   rintro e w1 ⟨v,rfl,hv,hR,hK⟩
   have HQ:Hid (IsW w.heap.size w1 v p∧Rd w1 b s p∧Bk w1 sb (#[.int .u8 st.k,.int .i64 st.r.x,.int .i64 st.r.y,.int .i64 st.r.w,.int .i64 st.r.h,.int .u8 st.c.r,.int .u8 st.c.g,.int .u8 st.c.b,.int .u8 st.c.a,.int .u8 st.b.r,.int .u8 st.b.g,.int .u8 st.b.b,.int .u8 st.b.a,.string st.t,.int .i64 st.n]) 55∧Kp2 b sb w w1):=⟨hv,hR,Kp2.bk hK HS.out.1 hne2 hne2,hK.one⟩
   clear hv hR hK HN HCo HE
   obtain ⟨x0,x1,x2,x3,x4,x5,x6,x7,x8,x9,x10,x11,x12,x13,x14⟩:=bk15 HQ.out.2.2.1
   simp only [Nat.zero_add] at x1 x2 x3 x4 x5 x6 x7 x8 x9 x10 x11 x12 x13 x14
   have f2:=bk15f HQ.out.2.2.1 2
   have HF:Hid (∀ W,W=(w1).setCell ⟨sb,2,none⟩ (.int .i64 0)→IsW w.heap.size W v (p+0)∧Rd W b s p∧Bk W sb (#[.int .u8 ({ st with r:={ st.r with y:=0 } }:St).k,.int .i64 ({ st with r:={ st.r with y:=0 } }:St).r.x,.int .i64 ({ st with r:={ st.r with y:=0 } }:St).r.y,.int .i64 ({ st with r:={ st.r with y:=0 } }:St).r.w,.int .i64 ({ st with r:={ st.r with y:=0 } }:St).r.h,.int .u8 ({ st with r:={ st.r with y:=0 } }:St).c.r,.int .u8 ({ st with r:={ st.r with y:=0 } }:St).c.g,.int .u8 ({ st with r:={ st.r with y:=0 } }:St).c.b,.int .u8 ({ st with r:={ st.r with y:=0 } }:St).c.a,.int .u8 ({ st with r:={ st.r with y:=0 } }:St).b.r,.int .u8 ({ st with r:={ st.r with y:=0 } }:St).b.g,.int .u8 ({ st with r:={ st.r with y:=0 } }:St).b.b,.int .u8 ({ st with r:={ st.r with y:=0 } }:St).b.a,.string ({ st with r:={ st.r with y:=0 } }:St).t,.int .i64 ({ st with r:={ st.r with y:=0 } }:St).n]) 55∧Kp2 b sb w W):=fun W hW=>by
    subst hW
    obtain ⟨q0,q1,q2,q3⟩:=HQ.out
    have hs:=HS.out
    exact ⟨IsW.keep (b:=b) (c:=sb) q0 ((Kp2.refl _ _ _).trans (Kp2.put2 _ _ _ _ _)) hs.2.1 hs.2.2.1,(Bk.other q1 ⟨sb,2,none⟩ _ hne2),(Bk.put q2 2 (.int .i64 0)),(q3.trans (Kp2.put2 _ _ _ _ _))⟩
   clear HQ HS
   go_wp2
   go_ret
   exact ⟨v,({ st with r:={ st.r with y:=0 } }:St),rfl,HF.out _ rfl⟩
 by_cases c87:c=87
 ·subst c87
  cases hn:nuL r with
  | some n =>
   have hT:tdL 87 r st = .inr ({ st with r:={ st.r with w:=n } },(pcN r).length):=by unfold tdL;rw [if_neg (by decide),if_neg (by decide),if_pos rfl];rw [hn]
   rw [hT]
   rw [hn] at HN
   clear hT hn
   go_enter Tryz.func103,Tryz.ntmps103
   go_wp2_with fail
   refine HN.out.mono ?_
   rintro e w1 ⟨rfl,hR,hK⟩
   have HQ:Hid (True∧Rd w1 b s (p+(pcN r).length)∧Bk w1 sb (#[.int .u8 st.k,.int .i64 st.r.x,.int .i64 st.r.y,.int .i64 st.r.w,.int .i64 st.r.h,.int .u8 st.c.r,.int .u8 st.c.g,.int .u8 st.c.b,.int .u8 st.c.a,.int .u8 st.b.r,.int .u8 st.b.g,.int .u8 st.b.b,.int .u8 st.b.a,.string st.t,.int .i64 st.n]) 55∧Kp2 b sb w w1):=⟨trivial,hR,Kp2.bk hK HS.out.1 hne2 hne2,hK.one⟩
   clear hR hK HN HCo HE
   obtain ⟨x0,x1,x2,x3,x4,x5,x6,x7,x8,x9,x10,x11,x12,x13,x14⟩:=bk15 HQ.out.2.2.1
   simp only [Nat.zero_add] at x1 x2 x3 x4 x5 x6 x7 x8 x9 x10 x11 x12 x13 x14
   have f3:=bk15f HQ.out.2.2.1 3
   have HF:Hid (∀ W,W=(w1).setCell ⟨sb,3,none⟩ (.int .i64 n)→Rd W b s (p+(pcN r).length)∧Bk W sb (#[.int .u8 ({ st with r:={ st.r with w:=n } }:St).k,.int .i64 ({ st with r:={ st.r with w:=n } }:St).r.x,.int .i64 ({ st with r:={ st.r with w:=n } }:St).r.y,.int .i64 ({ st with r:={ st.r with w:=n } }:St).r.w,.int .i64 ({ st with r:={ st.r with w:=n } }:St).r.h,.int .u8 ({ st with r:={ st.r with w:=n } }:St).c.r,.int .u8 ({ st with r:={ st.r with w:=n } }:St).c.g,.int .u8 ({ st with r:={ st.r with w:=n } }:St).c.b,.int .u8 ({ st with r:={ st.r with w:=n } }:St).c.a,.int .u8 ({ st with r:={ st.r with w:=n } }:St).b.r,.int .u8 ({ st with r:={ st.r with w:=n } }:St).b.g,.int .u8 ({ st with r:={ st.r with w:=n } }:St).b.b,.int .u8 ({ st with r:={ st.r with w:=n } }:St).b.a,.string ({ st with r:={ st.r with w:=n } }:St).t,.int .i64 ({ st with r:={ st.r with w:=n } }:St).n]) 55∧Kp2 b sb w W):=fun W hW=>by
    subst hW
    obtain ⟨_,q1,q2,q3⟩:=HQ.out
    exact ⟨(Bk.other q1 ⟨sb,3,none⟩ _ hne2),(Bk.put q2 3 (.int .i64 n)),(q3.trans (Kp2.put2 _ _ _ _ _))⟩
   clear HQ HS
   go_wp2
   go_ret
   exact ⟨rfl,HF.out _ rfl⟩
  | none =>
   have hT:tdL 87 r st = .inl 0:=by unfold tdL;rw [if_neg (by decide),if_neg (by decide),if_pos rfl];rw [hn]
   rw [hT]
   rw [hn] at HN
   clear hT hn
   go_enter Tryz.func103,Tryz.ntmps103
   go_wp2_with fail
   refine HN.out.mono ?_
   rintro e w1 ⟨v,rfl,hv,hR,hK⟩
   have HQ:Hid (IsW w.heap.size w1 v p∧Rd w1 b s p∧Bk w1 sb (#[.int .u8 st.k,.int .i64 st.r.x,.int .i64 st.r.y,.int .i64 st.r.w,.int .i64 st.r.h,.int .u8 st.c.r,.int .u8 st.c.g,.int .u8 st.c.b,.int .u8 st.c.a,.int .u8 st.b.r,.int .u8 st.b.g,.int .u8 st.b.b,.int .u8 st.b.a,.string st.t,.int .i64 st.n]) 55∧Kp2 b sb w w1):=⟨hv,hR,Kp2.bk hK HS.out.1 hne2 hne2,hK.one⟩
   clear hv hR hK HN HCo HE
   obtain ⟨x0,x1,x2,x3,x4,x5,x6,x7,x8,x9,x10,x11,x12,x13,x14⟩:=bk15 HQ.out.2.2.1
   simp only [Nat.zero_add] at x1 x2 x3 x4 x5 x6 x7 x8 x9 x10 x11 x12 x13 x14
   have f3:=bk15f HQ.out.2.2.1 3
   have HF:Hid (∀ W,W=(w1).setCell ⟨sb,3,none⟩ (.int .i64 0)→IsW w.heap.size W v (p+0)∧Rd W b s p∧Bk W sb (#[.int .u8 ({ st with r:={ st.r with w:=0 } }:St).k,.int .i64 ({ st with r:={ st.r with w:=0 } }:St).r.x,.int .i64 ({ st with r:={ st.r with w:=0 } }:St).r.y,.int .i64 ({ st with r:={ st.r with w:=0 } }:St).r.w,.int .i64 ({ st with r:={ st.r with w:=0 } }:St).r.h,.int .u8 ({ st with r:={ st.r with w:=0 } }:St).c.r,.int .u8 ({ st with r:={ st.r with w:=0 } }:St).c.g,.int .u8 ({ st with r:={ st.r with w:=0 } }:St).c.b,.int .u8 ({ st with r:={ st.r with w:=0 } }:St).c.a,.int .u8 ({ st with r:={ st.r with w:=0 } }:St).b.r,.int .u8 ({ st with r:={ st.r with w:=0 } }:St).b.g,.int .u8 ({ st with r:={ st.r with w:=0 } }:St).b.b,.int .u8 ({ st with r:={ st.r with w:=0 } }:St).b.a,.string ({ st with r:={ st.r with w:=0 } }:St).t,.int .i64 ({ st with r:={ st.r with w:=0 } }:St).n]) 55∧Kp2 b sb w W):=fun W hW=>by
    subst hW
    obtain ⟨q0,q1,q2,q3⟩:=HQ.out
    have hs:=HS.out
    exact ⟨IsW.keep (b:=b) (c:=sb) q0 ((Kp2.refl _ _ _).trans (Kp2.put2 _ _ _ _ _)) hs.2.1 hs.2.2.1,(Bk.other q1 ⟨sb,3,none⟩ _ hne2),(Bk.put q2 3 (.int .i64 0)),(q3.trans (Kp2.put2 _ _ _ _ _))⟩
   clear HQ HS
   go_wp2
   go_ret
   exact ⟨v,({ st with r:={ st.r with w:=0 } }:St),rfl,HF.out _ rfl⟩
 by_cases c72:c=72
 ·subst c72
  cases hn:nuL r with
  | some n =>
   have hT:tdL 72 r st = .inr ({ st with r:={ st.r with h:=n } },(pcN r).length):=by unfold tdL;rw [if_neg (by decide),if_neg (by decide),if_neg (by decide),if_pos rfl];rw [hn]
   rw [hT]
   rw [hn] at HN
   clear hT hn
   go_enter Tryz.func103,Tryz.ntmps103
   go_wp2_with fail
   refine HN.out.mono ?_
   rintro e w1 ⟨rfl,hR,hK⟩
   have HQ:Hid (True∧Rd w1 b s (p+(pcN r).length)∧Bk w1 sb (#[.int .u8 st.k,.int .i64 st.r.x,.int .i64 st.r.y,.int .i64 st.r.w,.int .i64 st.r.h,.int .u8 st.c.r,.int .u8 st.c.g,.int .u8 st.c.b,.int .u8 st.c.a,.int .u8 st.b.r,.int .u8 st.b.g,.int .u8 st.b.b,.int .u8 st.b.a,.string st.t,.int .i64 st.n]) 55∧Kp2 b sb w w1):=⟨trivial,hR,Kp2.bk hK HS.out.1 hne2 hne2,hK.one⟩
   clear hR hK HN HCo HE
   obtain ⟨x0,x1,x2,x3,x4,x5,x6,x7,x8,x9,x10,x11,x12,x13,x14⟩:=bk15 HQ.out.2.2.1
   simp only [Nat.zero_add] at x1 x2 x3 x4 x5 x6 x7 x8 x9 x10 x11 x12 x13 x14
   have f4:=bk15f HQ.out.2.2.1 4
   have HF:Hid (∀ W,W=(w1).setCell ⟨sb,4,none⟩ (.int .i64 n)→Rd W b s (p+(pcN r).length)∧Bk W sb (#[.int .u8 ({ st with r:={ st.r with h:=n } }:St).k,.int .i64 ({ st with r:={ st.r with h:=n } }:St).r.x,.int .i64 ({ st with r:={ st.r with h:=n } }:St).r.y,.int .i64 ({ st with r:={ st.r with h:=n } }:St).r.w,.int .i64 ({ st with r:={ st.r with h:=n } }:St).r.h,.int .u8 ({ st with r:={ st.r with h:=n } }:St).c.r,.int .u8 ({ st with r:={ st.r with h:=n } }:St).c.g,.int .u8 ({ st with r:={ st.r with h:=n } }:St).c.b,.int .u8 ({ st with r:={ st.r with h:=n } }:St).c.a,.int .u8 ({ st with r:={ st.r with h:=n } }:St).b.r,.int .u8 ({ st with r:={ st.r with h:=n } }:St).b.g,.int .u8 ({ st with r:={ st.r with h:=n } }:St).b.b,.int .u8 ({ st with r:={ st.r with h:=n } }:St).b.a,.string ({ st with r:={ st.r with h:=n } }:St).t,.int .i64 ({ st with r:={ st.r with h:=n } }:St).n]) 55∧Kp2 b sb w W):=fun W hW=>by
    subst hW
    obtain ⟨_,q1,q2,q3⟩:=HQ.out
    exact ⟨(Bk.other q1 ⟨sb,4,none⟩ _ hne2),(Bk.put q2 4 (.int .i64 n)),(q3.trans (Kp2.put2 _ _ _ _ _))⟩
   clear HQ HS
   go_wp2
   go_ret
   exact ⟨rfl,HF.out _ rfl⟩
  | none =>
   have hT:tdL 72 r st = .inl 0:=by unfold tdL;rw [if_neg (by decide),if_neg (by decide),if_neg (by decide),if_pos rfl];rw [hn]
   rw [hT]
   rw [hn] at HN
   clear hT hn
   go_enter Tryz.func103,Tryz.ntmps103
   go_wp2_with fail
   refine HN.out.mono ?_
   rintro e w1 ⟨v,rfl,hv,hR,hK⟩
   have HQ:Hid (IsW w.heap.size w1 v p∧Rd w1 b s p∧Bk w1 sb (#[.int .u8 st.k,.int .i64 st.r.x,.int .i64 st.r.y,.int .i64 st.r.w,.int .i64 st.r.h,.int .u8 st.c.r,.int .u8 st.c.g,.int .u8 st.c.b,.int .u8 st.c.a,.int .u8 st.b.r,.int .u8 st.b.g,.int .u8 st.b.b,.int .u8 st.b.a,.string st.t,.int .i64 st.n]) 55∧Kp2 b sb w w1):=⟨hv,hR,Kp2.bk hK HS.out.1 hne2 hne2,hK.one⟩
   clear hv hR hK HN HCo HE
   obtain ⟨x0,x1,x2,x3,x4,x5,x6,x7,x8,x9,x10,x11,x12,x13,x14⟩:=bk15 HQ.out.2.2.1
   simp only [Nat.zero_add] at x1 x2 x3 x4 x5 x6 x7 x8 x9 x10 x11 x12 x13 x14
   have f4:=bk15f HQ.out.2.2.1 4
   have HF:Hid (∀ W,W=(w1).setCell ⟨sb,4,none⟩ (.int .i64 0)→IsW w.heap.size W v (p+0)∧Rd W b s p∧Bk W sb (#[.int .u8 ({ st with r:={ st.r with h:=0 } }:St).k,.int .i64 ({ st with r:={ st.r with h:=0 } }:St).r.x,.int .i64 ({ st with r:={ st.r with h:=0 } }:St).r.y,.int .i64 ({ st with r:={ st.r with h:=0 } }:St).r.w,.int .i64 ({ st with r:={ st.r with h:=0 } }:St).r.h,.int .u8 ({ st with r:={ st.r with h:=0 } }:St).c.r,.int .u8 ({ st with r:={ st.r with h:=0 } }:St).c.g,.int .u8 ({ st with r:={ st.r with h:=0 } }:St).c.b,.int .u8 ({ st with r:={ st.r with h:=0 } }:St).c.a,.int .u8 ({ st with r:={ st.r with h:=0 } }:St).b.r,.int .u8 ({ st with r:={ st.r with h:=0 } }:St).b.g,.int .u8 ({ st with r:={ st.r with h:=0 } }:St).b.b,.int .u8 ({ st with r:={ st.r with h:=0 } }:St).b.a,.string ({ st with r:={ st.r with h:=0 } }:St).t,.int .i64 ({ st with r:={ st.r with h:=0 } }:St).n]) 55∧Kp2 b sb w W):=fun W hW=>by
    subst hW
    obtain ⟨q0,q1,q2,q3⟩:=HQ.out
    have hs:=HS.out
    exact ⟨IsW.keep (b:=b) (c:=sb) q0 ((Kp2.refl _ _ _).trans (Kp2.put2 _ _ _ _ _)) hs.2.1 hs.2.2.1,(Bk.other q1 ⟨sb,4,none⟩ _ hne2),(Bk.put q2 4 (.int .i64 0)),(q3.trans (Kp2.put2 _ _ _ _ _))⟩
   clear HQ HS
   go_wp2
   go_ret
   exact ⟨v,({ st with r:={ st.r with h:=0 } }:St),rfl,HF.out _ rfl⟩
 by_cases c67:c=67
 ·subst c67
  cases hn:coL r with
  | some n =>
   have hT:tdL 67 r st = .inr ({ st with c:=n },(pcC r).length):=by unfold tdL;rw [if_neg (by decide),if_neg (by decide),if_neg (by decide),if_neg (by decide),if_pos rfl];rw [hn]
   rw [hT]
   rw [hn] at HCo
   clear hT hn
   go_enter Tryz.func103,Tryz.ntmps103
   go_wp2_with fail
   refine HCo.out.mono ?_
   rintro e w1 ⟨rfl,hR,hK⟩
   have HQ:Hid (True∧Rd w1 b s (p+(pcC r).length)∧Bk w1 sb (#[.int .u8 st.k,.int .i64 st.r.x,.int .i64 st.r.y,.int .i64 st.r.w,.int .i64 st.r.h,.int .u8 st.c.r,.int .u8 st.c.g,.int .u8 st.c.b,.int .u8 st.c.a,.int .u8 st.b.r,.int .u8 st.b.g,.int .u8 st.b.b,.int .u8 st.b.a,.string st.t,.int .i64 st.n]) 55∧Kp2 b sb w w1):=⟨trivial,hR,Kp2.bk hK HS.out.1 hne2 hne2,hK.one⟩
   clear hR hK HN HCo HE
   obtain ⟨x0,x1,x2,x3,x4,x5,x6,x7,x8,x9,x10,x11,x12,x13,x14⟩:=bk15 HQ.out.2.2.1
   simp only [Nat.zero_add] at x1 x2 x3 x4 x5 x6 x7 x8 x9 x10 x11 x12 x13 x14
   have f5:=bk15f HQ.out.2.2.1 5
   have f6:=bk15f HQ.out.2.2.1 6
   have f7:=bk15f HQ.out.2.2.1 7
   have f8:=bk15f HQ.out.2.2.1 8
   have HF:Hid (∀ W,W=((((w1).setCell ⟨sb,5,none⟩ (.int .u8 n.r)).setCell ⟨sb,6,none⟩ (.int .u8 n.g)).setCell ⟨sb,7,none⟩ (.int .u8 n.b)).setCell ⟨sb,8,none⟩ (.int .u8 n.a)→Rd W b s (p+(pcC r).length)∧Bk W sb (#[.int .u8 ({ st with c:=n }:St).k,.int .i64 ({ st with c:=n }:St).r.x,.int .i64 ({ st with c:=n }:St).r.y,.int .i64 ({ st with c:=n }:St).r.w,.int .i64 ({ st with c:=n }:St).r.h,.int .u8 ({ st with c:=n }:St).c.r,.int .u8 ({ st with c:=n }:St).c.g,.int .u8 ({ st with c:=n }:St).c.b,.int .u8 ({ st with c:=n }:St).c.a,.int .u8 ({ st with c:=n }:St).b.r,.int .u8 ({ st with c:=n }:St).b.g,.int .u8 ({ st with c:=n }:St).b.b,.int .u8 ({ st with c:=n }:St).b.a,.string ({ st with c:=n }:St).t,.int .i64 ({ st with c:=n }:St).n]) 55∧Kp2 b sb w W):=fun W hW=>by
    subst hW
    obtain ⟨_,q1,q2,q3⟩:=HQ.out
    exact ⟨(Bk.other (Bk.other (Bk.other (Bk.other q1 ⟨sb,5,none⟩ _ hne2) ⟨sb,6,none⟩ _ hne2) ⟨sb,7,none⟩ _ hne2) ⟨sb,8,none⟩ _ hne2),(Bk.put (Bk.put (Bk.put (Bk.put q2 5 (.int .u8 n.r)) 6 (.int .u8 n.g)) 7 (.int .u8 n.b)) 8 (.int .u8 n.a)),((((q3.trans (Kp2.put2 _ _ _ _ _)).trans (Kp2.put2 _ _ _ _ _)).trans (Kp2.put2 _ _ _ _ _)).trans (Kp2.put2 _ _ _ _ _))⟩
   clear HQ HS
   go_wp2
   go_ret
   exact ⟨rfl,HF.out _ rfl⟩
  | none =>
   have hT:tdL 67 r st = .inl 0:=by unfold tdL;rw [if_neg (by decide),if_neg (by decide),if_neg (by decide),if_neg (by decide),if_pos rfl];rw [hn]
   rw [hT]
   rw [hn] at HCo
   clear hT hn
   go_enter Tryz.func103,Tryz.ntmps103
   go_wp2_with fail
   refine HCo.out.mono ?_
   rintro e w1 ⟨v,rfl,hv,hR,hK⟩
   have HQ:Hid (IsW w.heap.size w1 v p∧Rd w1 b s p∧Bk w1 sb (#[.int .u8 st.k,.int .i64 st.r.x,.int .i64 st.r.y,.int .i64 st.r.w,.int .i64 st.r.h,.int .u8 st.c.r,.int .u8 st.c.g,.int .u8 st.c.b,.int .u8 st.c.a,.int .u8 st.b.r,.int .u8 st.b.g,.int .u8 st.b.b,.int .u8 st.b.a,.string st.t,.int .i64 st.n]) 55∧Kp2 b sb w w1):=⟨hv,hR,Kp2.bk hK HS.out.1 hne2 hne2,hK.one⟩
   clear hv hR hK HN HCo HE
   obtain ⟨x0,x1,x2,x3,x4,x5,x6,x7,x8,x9,x10,x11,x12,x13,x14⟩:=bk15 HQ.out.2.2.1
   simp only [Nat.zero_add] at x1 x2 x3 x4 x5 x6 x7 x8 x9 x10 x11 x12 x13 x14
   have f5:=bk15f HQ.out.2.2.1 5
   have f6:=bk15f HQ.out.2.2.1 6
   have f7:=bk15f HQ.out.2.2.1 7
   have f8:=bk15f HQ.out.2.2.1 8
   have HF:Hid (∀ W,W=((((w1).setCell ⟨sb,5,none⟩ (.int .u8 0)).setCell ⟨sb,6,none⟩ (.int .u8 0)).setCell ⟨sb,7,none⟩ (.int .u8 0)).setCell ⟨sb,8,none⟩ (.int .u8 0)→IsW w.heap.size W v (p+0)∧Rd W b s p∧Bk W sb (#[.int .u8 ({ st with c:=⟨0,0,0,0⟩ }:St).k,.int .i64 ({ st with c:=⟨0,0,0,0⟩ }:St).r.x,.int .i64 ({ st with c:=⟨0,0,0,0⟩ }:St).r.y,.int .i64 ({ st with c:=⟨0,0,0,0⟩ }:St).r.w,.int .i64 ({ st with c:=⟨0,0,0,0⟩ }:St).r.h,.int .u8 ({ st with c:=⟨0,0,0,0⟩ }:St).c.r,.int .u8 ({ st with c:=⟨0,0,0,0⟩ }:St).c.g,.int .u8 ({ st with c:=⟨0,0,0,0⟩ }:St).c.b,.int .u8 ({ st with c:=⟨0,0,0,0⟩ }:St).c.a,.int .u8 ({ st with c:=⟨0,0,0,0⟩ }:St).b.r,.int .u8 ({ st with c:=⟨0,0,0,0⟩ }:St).b.g,.int .u8 ({ st with c:=⟨0,0,0,0⟩ }:St).b.b,.int .u8 ({ st with c:=⟨0,0,0,0⟩ }:St).b.a,.string ({ st with c:=⟨0,0,0,0⟩ }:St).t,.int .i64 ({ st with c:=⟨0,0,0,0⟩ }:St).n]) 55∧Kp2 b sb w W):=fun W hW=>by
    subst hW
    obtain ⟨q0,q1,q2,q3⟩:=HQ.out
    have hs:=HS.out
    exact ⟨IsW.keep (b:=b) (c:=sb) q0 (((((Kp2.refl _ _ _).trans (Kp2.put2 _ _ _ _ _)).trans (Kp2.put2 _ _ _ _ _)).trans (Kp2.put2 _ _ _ _ _)).trans (Kp2.put2 _ _ _ _ _)) hs.2.1 hs.2.2.1,(Bk.other (Bk.other (Bk.other (Bk.other q1 ⟨sb,5,none⟩ _ hne2) ⟨sb,6,none⟩ _ hne2) ⟨sb,7,none⟩ _ hne2) ⟨sb,8,none⟩ _ hne2),(Bk.put (Bk.put (Bk.put (Bk.put q2 5 (.int .u8 0)) 6 (.int .u8 0)) 7 (.int .u8 0)) 8 (.int .u8 0)),((((q3.trans (Kp2.put2 _ _ _ _ _)).trans (Kp2.put2 _ _ _ _ _)).trans (Kp2.put2 _ _ _ _ _)).trans (Kp2.put2 _ _ _ _ _))⟩
   clear HQ HS
   go_wp2
   go_ret
   exact ⟨v,({ st with c:=⟨0,0,0,0⟩ }:St),rfl,HF.out _ rfl⟩
 by_cases c66:c=66
 ·subst c66
  cases hn:coL r with
  | some n =>
   have hT:tdL 66 r st = .inr ({ st with b:=n },(pcC r).length):=by unfold tdL;rw [if_neg (by decide),if_neg (by decide),if_neg (by decide),if_neg (by decide),if_neg (by decide),if_pos rfl];rw [hn]
   rw [hT]
   rw [hn] at HCo
   clear hT hn
   go_enter Tryz.func103,Tryz.ntmps103
   go_wp2_with fail
   refine HCo.out.mono ?_
   rintro e w1 ⟨rfl,hR,hK⟩
   have HQ:Hid (True∧Rd w1 b s (p+(pcC r).length)∧Bk w1 sb (#[.int .u8 st.k,.int .i64 st.r.x,.int .i64 st.r.y,.int .i64 st.r.w,.int .i64 st.r.h,.int .u8 st.c.r,.int .u8 st.c.g,.int .u8 st.c.b,.int .u8 st.c.a,.int .u8 st.b.r,.int .u8 st.b.g,.int .u8 st.b.b,.int .u8 st.b.a,.string st.t,.int .i64 st.n]) 55∧Kp2 b sb w w1):=⟨trivial,hR,Kp2.bk hK HS.out.1 hne2 hne2,hK.one⟩
   clear hR hK HN HCo HE
   obtain ⟨x0,x1,x2,x3,x4,x5,x6,x7,x8,x9,x10,x11,x12,x13,x14⟩:=bk15 HQ.out.2.2.1
   simp only [Nat.zero_add] at x1 x2 x3 x4 x5 x6 x7 x8 x9 x10 x11 x12 x13 x14
   have f9:=bk15f HQ.out.2.2.1 9
   have f10:=bk15f HQ.out.2.2.1 10
   have f11:=bk15f HQ.out.2.2.1 11
   have f12:=bk15f HQ.out.2.2.1 12
   have HF:Hid (∀ W,W=((((w1).setCell ⟨sb,9,none⟩ (.int .u8 n.r)).setCell ⟨sb,10,none⟩ (.int .u8 n.g)).setCell ⟨sb,11,none⟩ (.int .u8 n.b)).setCell ⟨sb,12,none⟩ (.int .u8 n.a)→Rd W b s (p+(pcC r).length)∧Bk W sb (#[.int .u8 ({ st with b:=n }:St).k,.int .i64 ({ st with b:=n }:St).r.x,.int .i64 ({ st with b:=n }:St).r.y,.int .i64 ({ st with b:=n }:St).r.w,.int .i64 ({ st with b:=n }:St).r.h,.int .u8 ({ st with b:=n }:St).c.r,.int .u8 ({ st with b:=n }:St).c.g,.int .u8 ({ st with b:=n }:St).c.b,.int .u8 ({ st with b:=n }:St).c.a,.int .u8 ({ st with b:=n }:St).b.r,.int .u8 ({ st with b:=n }:St).b.g,.int .u8 ({ st with b:=n }:St).b.b,.int .u8 ({ st with b:=n }:St).b.a,.string ({ st with b:=n }:St).t,.int .i64 ({ st with b:=n }:St).n]) 55∧Kp2 b sb w W):=fun W hW=>by
    subst hW
    obtain ⟨_,q1,q2,q3⟩:=HQ.out
    exact ⟨(Bk.other (Bk.other (Bk.other (Bk.other q1 ⟨sb,9,none⟩ _ hne2) ⟨sb,10,none⟩ _ hne2) ⟨sb,11,none⟩ _ hne2) ⟨sb,12,none⟩ _ hne2),(Bk.put (Bk.put (Bk.put (Bk.put q2 9 (.int .u8 n.r)) 10 (.int .u8 n.g)) 11 (.int .u8 n.b)) 12 (.int .u8 n.a)),((((q3.trans (Kp2.put2 _ _ _ _ _)).trans (Kp2.put2 _ _ _ _ _)).trans (Kp2.put2 _ _ _ _ _)).trans (Kp2.put2 _ _ _ _ _))⟩
   clear HQ HS
   go_wp2
   go_ret
   exact ⟨rfl,HF.out _ rfl⟩
  | none =>
   have hT:tdL 66 r st = .inl 0:=by unfold tdL;rw [if_neg (by decide),if_neg (by decide),if_neg (by decide),if_neg (by decide),if_neg (by decide),if_pos rfl];rw [hn]
   rw [hT]
   rw [hn] at HCo
   clear hT hn
   go_enter Tryz.func103,Tryz.ntmps103
   go_wp2_with fail
   refine HCo.out.mono ?_
   rintro e w1 ⟨v,rfl,hv,hR,hK⟩
   have HQ:Hid (IsW w.heap.size w1 v p∧Rd w1 b s p∧Bk w1 sb (#[.int .u8 st.k,.int .i64 st.r.x,.int .i64 st.r.y,.int .i64 st.r.w,.int .i64 st.r.h,.int .u8 st.c.r,.int .u8 st.c.g,.int .u8 st.c.b,.int .u8 st.c.a,.int .u8 st.b.r,.int .u8 st.b.g,.int .u8 st.b.b,.int .u8 st.b.a,.string st.t,.int .i64 st.n]) 55∧Kp2 b sb w w1):=⟨hv,hR,Kp2.bk hK HS.out.1 hne2 hne2,hK.one⟩
   clear hv hR hK HN HCo HE
   obtain ⟨x0,x1,x2,x3,x4,x5,x6,x7,x8,x9,x10,x11,x12,x13,x14⟩:=bk15 HQ.out.2.2.1
   simp only [Nat.zero_add] at x1 x2 x3 x4 x5 x6 x7 x8 x9 x10 x11 x12 x13 x14
   have f9:=bk15f HQ.out.2.2.1 9
   have f10:=bk15f HQ.out.2.2.1 10
   have f11:=bk15f HQ.out.2.2.1 11
   have f12:=bk15f HQ.out.2.2.1 12
   have HF:Hid (∀ W,W=((((w1).setCell ⟨sb,9,none⟩ (.int .u8 0)).setCell ⟨sb,10,none⟩ (.int .u8 0)).setCell ⟨sb,11,none⟩ (.int .u8 0)).setCell ⟨sb,12,none⟩ (.int .u8 0)→IsW w.heap.size W v (p+0)∧Rd W b s p∧Bk W sb (#[.int .u8 ({ st with b:=⟨0,0,0,0⟩ }:St).k,.int .i64 ({ st with b:=⟨0,0,0,0⟩ }:St).r.x,.int .i64 ({ st with b:=⟨0,0,0,0⟩ }:St).r.y,.int .i64 ({ st with b:=⟨0,0,0,0⟩ }:St).r.w,.int .i64 ({ st with b:=⟨0,0,0,0⟩ }:St).r.h,.int .u8 ({ st with b:=⟨0,0,0,0⟩ }:St).c.r,.int .u8 ({ st with b:=⟨0,0,0,0⟩ }:St).c.g,.int .u8 ({ st with b:=⟨0,0,0,0⟩ }:St).c.b,.int .u8 ({ st with b:=⟨0,0,0,0⟩ }:St).c.a,.int .u8 ({ st with b:=⟨0,0,0,0⟩ }:St).b.r,.int .u8 ({ st with b:=⟨0,0,0,0⟩ }:St).b.g,.int .u8 ({ st with b:=⟨0,0,0,0⟩ }:St).b.b,.int .u8 ({ st with b:=⟨0,0,0,0⟩ }:St).b.a,.string ({ st with b:=⟨0,0,0,0⟩ }:St).t,.int .i64 ({ st with b:=⟨0,0,0,0⟩ }:St).n]) 55∧Kp2 b sb w W):=fun W hW=>by
    subst hW
    obtain ⟨q0,q1,q2,q3⟩:=HQ.out
    have hs:=HS.out
    exact ⟨IsW.keep (b:=b) (c:=sb) q0 (((((Kp2.refl _ _ _).trans (Kp2.put2 _ _ _ _ _)).trans (Kp2.put2 _ _ _ _ _)).trans (Kp2.put2 _ _ _ _ _)).trans (Kp2.put2 _ _ _ _ _)) hs.2.1 hs.2.2.1,(Bk.other (Bk.other (Bk.other (Bk.other q1 ⟨sb,9,none⟩ _ hne2) ⟨sb,10,none⟩ _ hne2) ⟨sb,11,none⟩ _ hne2) ⟨sb,12,none⟩ _ hne2),(Bk.put (Bk.put (Bk.put (Bk.put q2 9 (.int .u8 0)) 10 (.int .u8 0)) 11 (.int .u8 0)) 12 (.int .u8 0)),((((q3.trans (Kp2.put2 _ _ _ _ _)).trans (Kp2.put2 _ _ _ _ _)).trans (Kp2.put2 _ _ _ _ _)).trans (Kp2.put2 _ _ _ _ _))⟩
   clear HQ HS
   go_wp2
   go_ret
   exact ⟨v,({ st with b:=⟨0,0,0,0⟩ }:St),rfl,HF.out _ rfl⟩
 by_cases c78:c=78
 ·subst c78
  cases hn:nuL r with
  | some n =>
   have hT:tdL 78 r st = .inr ({ st with n:=n },(pcN r).length):=by unfold tdL;rw [if_neg (by decide),if_neg (by decide),if_neg (by decide),if_neg (by decide),if_neg (by decide),if_neg (by decide),if_pos rfl];rw [hn]
   rw [hT]
   rw [hn] at HN
   clear hT hn
   go_enter Tryz.func103,Tryz.ntmps103
   go_wp2_with fail
   refine HN.out.mono ?_
   rintro e w1 ⟨rfl,hR,hK⟩
   have HQ:Hid (True∧Rd w1 b s (p+(pcN r).length)∧Bk w1 sb (#[.int .u8 st.k,.int .i64 st.r.x,.int .i64 st.r.y,.int .i64 st.r.w,.int .i64 st.r.h,.int .u8 st.c.r,.int .u8 st.c.g,.int .u8 st.c.b,.int .u8 st.c.a,.int .u8 st.b.r,.int .u8 st.b.g,.int .u8 st.b.b,.int .u8 st.b.a,.string st.t,.int .i64 st.n]) 55∧Kp2 b sb w w1):=⟨trivial,hR,Kp2.bk hK HS.out.1 hne2 hne2,hK.one⟩
   clear hR hK HN HCo HE
   obtain ⟨x0,x1,x2,x3,x4,x5,x6,x7,x8,x9,x10,x11,x12,x13,x14⟩:=bk15 HQ.out.2.2.1
   simp only [Nat.zero_add] at x1 x2 x3 x4 x5 x6 x7 x8 x9 x10 x11 x12 x13 x14
   have f14:=bk15f HQ.out.2.2.1 14
   have HF:Hid (∀ W,W=(w1).setCell ⟨sb,14,none⟩ (.int .i64 n)→Rd W b s (p+(pcN r).length)∧Bk W sb (#[.int .u8 ({ st with n:=n }:St).k,.int .i64 ({ st with n:=n }:St).r.x,.int .i64 ({ st with n:=n }:St).r.y,.int .i64 ({ st with n:=n }:St).r.w,.int .i64 ({ st with n:=n }:St).r.h,.int .u8 ({ st with n:=n }:St).c.r,.int .u8 ({ st with n:=n }:St).c.g,.int .u8 ({ st with n:=n }:St).c.b,.int .u8 ({ st with n:=n }:St).c.a,.int .u8 ({ st with n:=n }:St).b.r,.int .u8 ({ st with n:=n }:St).b.g,.int .u8 ({ st with n:=n }:St).b.b,.int .u8 ({ st with n:=n }:St).b.a,.string ({ st with n:=n }:St).t,.int .i64 ({ st with n:=n }:St).n]) 55∧Kp2 b sb w W):=fun W hW=>by
    subst hW
    obtain ⟨_,q1,q2,q3⟩:=HQ.out
    exact ⟨(Bk.other q1 ⟨sb,14,none⟩ _ hne2),(Bk.put q2 14 (.int .i64 n)),(q3.trans (Kp2.put2 _ _ _ _ _))⟩
   clear HQ HS
   go_wp2
   go_ret
   exact ⟨rfl,HF.out _ rfl⟩
  | none =>
   have hT:tdL 78 r st = .inl 0:=by unfold tdL;rw [if_neg (by decide),if_neg (by decide),if_neg (by decide),if_neg (by decide),if_neg (by decide),if_neg (by decide),if_pos rfl];rw [hn]
   rw [hT]
   rw [hn] at HN
   clear hT hn
   go_enter Tryz.func103,Tryz.ntmps103
   go_wp2_with fail
   refine HN.out.mono ?_
   rintro e w1 ⟨v,rfl,hv,hR,hK⟩
   have HQ:Hid (IsW w.heap.size w1 v p∧Rd w1 b s p∧Bk w1 sb (#[.int .u8 st.k,.int .i64 st.r.x,.int .i64 st.r.y,.int .i64 st.r.w,.int .i64 st.r.h,.int .u8 st.c.r,.int .u8 st.c.g,.int .u8 st.c.b,.int .u8 st.c.a,.int .u8 st.b.r,.int .u8 st.b.g,.int .u8 st.b.b,.int .u8 st.b.a,.string st.t,.int .i64 st.n]) 55∧Kp2 b sb w w1):=⟨hv,hR,Kp2.bk hK HS.out.1 hne2 hne2,hK.one⟩
   clear hv hR hK HN HCo HE
   obtain ⟨x0,x1,x2,x3,x4,x5,x6,x7,x8,x9,x10,x11,x12,x13,x14⟩:=bk15 HQ.out.2.2.1
   simp only [Nat.zero_add] at x1 x2 x3 x4 x5 x6 x7 x8 x9 x10 x11 x12 x13 x14
   have f14:=bk15f HQ.out.2.2.1 14
   have HF:Hid (∀ W,W=(w1).setCell ⟨sb,14,none⟩ (.int .i64 0)→IsW w.heap.size W v (p+0)∧Rd W b s p∧Bk W sb (#[.int .u8 ({ st with n:=0 }:St).k,.int .i64 ({ st with n:=0 }:St).r.x,.int .i64 ({ st with n:=0 }:St).r.y,.int .i64 ({ st with n:=0 }:St).r.w,.int .i64 ({ st with n:=0 }:St).r.h,.int .u8 ({ st with n:=0 }:St).c.r,.int .u8 ({ st with n:=0 }:St).c.g,.int .u8 ({ st with n:=0 }:St).c.b,.int .u8 ({ st with n:=0 }:St).c.a,.int .u8 ({ st with n:=0 }:St).b.r,.int .u8 ({ st with n:=0 }:St).b.g,.int .u8 ({ st with n:=0 }:St).b.b,.int .u8 ({ st with n:=0 }:St).b.a,.string ({ st with n:=0 }:St).t,.int .i64 ({ st with n:=0 }:St).n]) 55∧Kp2 b sb w W):=fun W hW=>by
    subst hW
    obtain ⟨q0,q1,q2,q3⟩:=HQ.out
    have hs:=HS.out
    exact ⟨IsW.keep (b:=b) (c:=sb) q0 ((Kp2.refl _ _ _).trans (Kp2.put2 _ _ _ _ _)) hs.2.1 hs.2.2.1,(Bk.other q1 ⟨sb,14,none⟩ _ hne2),(Bk.put q2 14 (.int .i64 0)),(q3.trans (Kp2.put2 _ _ _ _ _))⟩
   clear HQ HS
   go_wp2
   go_ret
   exact ⟨v,({ st with n:=0 }:St),rfl,HF.out _ rfl⟩
 by_cases c84:c=84
 ·subst c84
  by_cases he:(esA r).2.2=0
  ·have hT:tdL 84 r st = .inr ({ st with t:=⟨(esA r).1.toArray⟩ },(pcE r).length):=by unfold tdL;rw [if_neg (by decide),if_neg (by decide),if_neg (by decide),if_neg (by decide),if_neg (by decide),if_neg (by decide),if_neg (by decide),if_pos rfl,if_pos he]
   rw [hT]
   have HE1:Hid (Calls Tryz.prog 142 #[.pointer (some ⟨b,0,none⟩)] w fun e w'=>e = .returned (.tuple #[.string ⟨(esA r).1.toArray⟩,.nilIface])∧Rd w' b s (p+(pcE r).length)∧Kp2 b b w w'):=HE.out.mono fun e w' h=>h.1 he
   obtain ⟨tx,htx⟩:∃ tx:ByteArray,tx=⟨(esA r).1.toArray⟩:=⟨_,rfl⟩
   rw [← htx] at HE1 ⊢
   clear hT he HE htx
   go_enter Tryz.func103,Tryz.ntmps103
   go_wp2_with fail
   refine HE1.out.mono ?_
   rintro e w1 ⟨rfl,hR,hK⟩
   have HQ:Hid (True∧Rd w1 b s (p+(pcE r).length)∧Bk w1 sb (#[.int .u8 st.k,.int .i64 st.r.x,.int .i64 st.r.y,.int .i64 st.r.w,.int .i64 st.r.h,.int .u8 st.c.r,.int .u8 st.c.g,.int .u8 st.c.b,.int .u8 st.c.a,.int .u8 st.b.r,.int .u8 st.b.g,.int .u8 st.b.b,.int .u8 st.b.a,.string st.t,.int .i64 st.n]) 55∧Kp2 b sb w w1):=⟨trivial,hR,Kp2.bk hK HS.out.1 hne2 hne2,hK.one⟩
   clear hR hK HN HCo HE1
   obtain ⟨x0,x1,x2,x3,x4,x5,x6,x7,x8,x9,x10,x11,x12,x13,x14⟩:=bk15 HQ.out.2.2.1
   simp only [Nat.zero_add] at x1 x2 x3 x4 x5 x6 x7 x8 x9 x10 x11 x12 x13 x14
   have f13:=bk15f HQ.out.2.2.1 13
   have HF:Hid (∀ W,W=(w1).setCell ⟨sb,13,none⟩ (.string tx)→Rd W b s (p+(pcE r).length)∧Bk W sb (#[.int .u8 ({ st with t:=tx }:St).k,.int .i64 ({ st with t:=tx }:St).r.x,.int .i64 ({ st with t:=tx }:St).r.y,.int .i64 ({ st with t:=tx }:St).r.w,.int .i64 ({ st with t:=tx }:St).r.h,.int .u8 ({ st with t:=tx }:St).c.r,.int .u8 ({ st with t:=tx }:St).c.g,.int .u8 ({ st with t:=tx }:St).c.b,.int .u8 ({ st with t:=tx }:St).c.a,.int .u8 ({ st with t:=tx }:St).b.r,.int .u8 ({ st with t:=tx }:St).b.g,.int .u8 ({ st with t:=tx }:St).b.b,.int .u8 ({ st with t:=tx }:St).b.a,.string ({ st with t:=tx }:St).t,.int .i64 ({ st with t:=tx }:St).n]) 55∧Kp2 b sb w W):=fun W hW=>by
    subst hW
    obtain ⟨_,q1,q2,q3⟩:=HQ.out
    exact ⟨(Bk.other q1 ⟨sb,13,none⟩ _ hne2),(Bk.put q2 13 (.string tx)),(q3.trans (Kp2.put2 _ _ _ _ _))⟩
   clear HQ HS
   go_wp2
   go_ret
   exact ⟨rfl,HF.out _ rfl⟩
  ·have hT:tdL 84 r st = .inl (esA r).2.1:=by unfold tdL;rw [if_neg (by decide),if_neg (by decide),if_neg (by decide),if_neg (by decide),if_neg (by decide),if_neg (by decide),if_neg (by decide),if_pos rfl,if_neg he]
   rw [hT]
   have HE1:Hid (Calls Tryz.prog 142 #[.pointer (some ⟨b,0,none⟩)] w fun e w'=>∃ v,e = .returned (.tuple #[.string ⟨#[]⟩,v])∧IsW w.heap.size w' v (p+(esA r).2.1)∧Rd w' b s p∧Kp2 b b w w'):=HE.out.mono fun e w' h=>h.2 he
   clear hT he HE
   generalize (esA r).2.1=o at *
   go_enter Tryz.func103,Tryz.ntmps103
   go_wp2_with fail
   refine HE1.out.mono ?_
   rintro e w1 ⟨v,rfl,hv,hR,hK⟩
   have HQ:Hid (IsW w.heap.size w1 v (p+o)∧Rd w1 b s p∧Bk w1 sb (#[.int .u8 st.k,.int .i64 st.r.x,.int .i64 st.r.y,.int .i64 st.r.w,.int .i64 st.r.h,.int .u8 st.c.r,.int .u8 st.c.g,.int .u8 st.c.b,.int .u8 st.c.a,.int .u8 st.b.r,.int .u8 st.b.g,.int .u8 st.b.b,.int .u8 st.b.a,.string st.t,.int .i64 st.n]) 55∧Kp2 b sb w w1):=⟨hv,hR,Kp2.bk hK HS.out.1 hne2 hne2,hK.one⟩
   clear hv hR hK HN HCo HE1
   obtain ⟨x0,x1,x2,x3,x4,x5,x6,x7,x8,x9,x10,x11,x12,x13,x14⟩:=bk15 HQ.out.2.2.1
   simp only [Nat.zero_add] at x1 x2 x3 x4 x5 x6 x7 x8 x9 x10 x11 x12 x13 x14
   have f13:=bk15f HQ.out.2.2.1 13
   have HF:Hid (∀ W,W=(w1).setCell ⟨sb,13,none⟩ (.string ⟨#[]⟩)→IsW w.heap.size W v (p+o)∧Rd W b s p∧Bk W sb (#[.int .u8 ({ st with t:=⟨#[]⟩ }:St).k,.int .i64 ({ st with t:=⟨#[]⟩ }:St).r.x,.int .i64 ({ st with t:=⟨#[]⟩ }:St).r.y,.int .i64 ({ st with t:=⟨#[]⟩ }:St).r.w,.int .i64 ({ st with t:=⟨#[]⟩ }:St).r.h,.int .u8 ({ st with t:=⟨#[]⟩ }:St).c.r,.int .u8 ({ st with t:=⟨#[]⟩ }:St).c.g,.int .u8 ({ st with t:=⟨#[]⟩ }:St).c.b,.int .u8 ({ st with t:=⟨#[]⟩ }:St).c.a,.int .u8 ({ st with t:=⟨#[]⟩ }:St).b.r,.int .u8 ({ st with t:=⟨#[]⟩ }:St).b.g,.int .u8 ({ st with t:=⟨#[]⟩ }:St).b.b,.int .u8 ({ st with t:=⟨#[]⟩ }:St).b.a,.string ({ st with t:=⟨#[]⟩ }:St).t,.int .i64 ({ st with t:=⟨#[]⟩ }:St).n]) 55∧Kp2 b sb w W):=fun W hW=>by
    subst hW
    obtain ⟨q0,q1,q2,q3⟩:=HQ.out
    have hs:=HS.out
    exact ⟨IsW.keep (b:=b) (c:=sb) q0 (Kp2.put2 _ _ _ _ _) hs.2.1 hs.2.2.1,(Bk.other q1 ⟨sb,13,none⟩ _ hne2),(Bk.put q2 13 (.string ⟨#[]⟩)),(q3.trans (Kp2.put2 _ _ _ _ _))⟩
   clear HQ HS
   go_wp2
   go_ret
   exact ⟨v,({ st with t:=⟨#[]⟩ }:St),rfl,HF.out _ rfl⟩
 have hT:tdL c r st = .inr (st,0):=by unfold tdL;rw [if_neg c88,if_neg c89,if_neg c87,if_neg c72,if_neg c67,if_neg c66,if_neg c78,if_neg c84]
 rw [hT]
 have g88:(((c:Nat):Int)==88)=false:=by rw [beq_eq_false_iff_ne];omega
 have g89:(((c:Nat):Int)==89)=false:=by rw [beq_eq_false_iff_ne];omega
 have g87:(((c:Nat):Int)==87)=false:=by rw [beq_eq_false_iff_ne];omega
 have g72:(((c:Nat):Int)==72)=false:=by rw [beq_eq_false_iff_ne];omega
 have g67:(((c:Nat):Int)==67)=false:=by rw [beq_eq_false_iff_ne];omega
 have g66:(((c:Nat):Int)==66)=false:=by rw [beq_eq_false_iff_ne];omega
 have g78:(((c:Nat):Int)==78)=false:=by rw [beq_eq_false_iff_ne];omega
 have g84:(((c:Nat):Int)==84)=false:=by rw [beq_eq_false_iff_ne];omega
 clear hT HN HCo HE
 go_enter Tryz.func103,Tryz.ntmps103
 go_wp2
 go_ret
 exact ⟨rfl,HS.out.2.2.2,HS.out.1,Kp2.refl _ _ _⟩
end Go.Proofs.YtapachlhdgehjaaGreatDoor
