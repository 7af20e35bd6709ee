/-
  Texts of this claim, one behind the other: what each is about stands ahead of it.
-/
import Derived.Test.YtapachlhdgehjaaGreatDoorK40
import Derived.Test.YtapachlhdgehjaaGreatDoorK39
import Derived.Test.YtapachlhdgehjaaGreatDoorK3
import Derived.Test.YtapachlhdgehjaaGreatDoorK34
import Derived.WalkKit
import Derived.LaidEql
import Derived.Stop.Asserts
import Derived.RowKitTokens
import Derived.Test.YtapachlhdgehjaaGreatDoorK38
/- A text of shapes that is read is what is written of what was read, in plain words. -/
namespace Go.Proofs.YtapachlhdgehjaaGreatDoor
open Go.RowKit Go.Lib
def leB (c:Nat):Bool:=(c==88)||(c==89)||(c==87)||(c==72)||(c==67)||(c==66)||(c==78)||(c==84)
structure TdG (c:Nat) (r:List UInt8) (st st':St) (n:Nat):Prop where
 ok:r.take n=pceF st' c
 oth:∀ b,b≠c→pceF st' b=pceF st b
 wf:WfS st→r.length≤1000000→WfS st'
theorem nuL_some {r:List UInt8} {n:Int} (h:nuL r=some n):r.take (pcN r).length=itoa n∧I64 n:=by
 have e:r.take (pcN r).length=pcN r:=by
  rw [pcN_len]
  rfl
 unfold nuL at h
 split at h
 ·cases h
 ·split at h
  ·next m hm =>
   split at h
   ·next hi =>
    injection h with h
    subst h
    exact ⟨by rw [e,hi],atoiAll_bounds hm⟩
   ·cases h
  ·cases h
theorem coL_some {r:List UInt8} {c:Co} (h:coL r=some c):r.take (pcC r).length=(txt c).data.toList∧c.ok:=by
 have e:r.take (pcC r).length=pcC r:=by
  rw [pcC_len]
  rfl
 unfold coL at h
 split at h
 ·next hc =>
  injection h with h
  subst h
  exact ⟨by rw [e,hc.2],parC_ok _⟩
 ·cases h
theorem escL_ge:∀ l:List UInt8,l.length≤(escL l).length
 | []=>Nat.le_refl _
 | b :: l=>by
  have h1:=escL_ge l
  rw [escL_cons,List.length_append,List.length_cons]
  have:1≤(escB b).length:=by unfold escB;split <;> simp
  omega
theorem esA_ok {r:List UInt8} (h:(esA r).2.2=0):r.take (pcE r).length=escL (esA r).1∧(esA r).1.length≤r.length:=by
 have e:r.take (pcE r).length=pcE r:=by
  unfold pcE Lib.cut
  split
  ·exact (List.prefix_iff_eq_take.1 (List.take_prefix _ r)).symm
  ·simp
 unfold esA at h ⊢
 rcases vpA_back ⟨(pcE r).toArray⟩ with ⟨u,h1,h2⟩ | ⟨q,h1,_⟩
 ·rw [h1]
  refine ⟨by rw [e,h2],?_⟩
  have h3:=escL_ge u
  have h4:=pcE_len r
  rw [h2] at h3
  simp at h3 ⊢
  omega
 ·rw [h1] at h
  cases h
theorem tdN {r:List UInt8} {f:Int→St} {st':St} {n:Nat} (h:(match nuL r with | some n=>(Sum.inr (f n,(pcN r).length):Nat ⊕ (St × Nat)) | none=>.inl 0) = .inr (st',n)):∃ m,r.take n=itoa m∧I64 m∧st'=f m:=by
 split at h
 ·next m hm =>
  injection h with h
  injection h with h1 h2
  subst h1
  subst h2
  exact ⟨m,(nuL_some hm).1,(nuL_some hm).2,rfl⟩
 ·cases h
theorem tdC {r:List UInt8} {f:Co→St} {st':St} {n:Nat} (h:(match coL r with | some n=>(Sum.inr (f n,(pcC r).length):Nat ⊕ (St × Nat)) | none=>.inl 0) = .inr (st',n)):∃ m:Co,r.take n=(txt m).data.toList∧m.ok∧st'=f m:=by
 split at h
 ·next m hm =>
  injection h with h
  injection h with h1 h2
  subst h1
  subst h2
  exact ⟨m,(coL_some hm).1,(coL_some hm).2,rfl⟩
 ·cases h
theorem tdL_good {c:Nat} {r:List UInt8} {st st':St} {n:Nat} (hc:leB c=true) (h:tdL c r st = .inr (st',n)):TdG c r st st' n:=by
 unfold tdL at h
 by_cases c1:c=88
 ·rw [if_pos c1] at h
  obtain ⟨m,h1,h2,rfl⟩:=tdN h
  subst c1
  exact ⟨h1,fun b hb=>by unfold pceF;rw [if_neg hb,if_neg hb],fun w _=>⟨w.1,⟨h2,w.2.1.2⟩,w.2.2⟩⟩
 rw [if_neg c1] at h
 by_cases c2:c=89
 ·rw [if_pos c2] at h
  obtain ⟨m,h1,h2,rfl⟩:=tdN h
  subst c2
  exact ⟨h1,fun b hb=>by unfold pceF;simp [hb],fun w _=>⟨w.1,⟨w.2.1.1,h2,w.2.1.2.2⟩,w.2.2⟩⟩
 rw [if_neg c2] at h
 by_cases c3:c=87
 ·rw [if_pos c3] at h
  obtain ⟨m,h1,h2,rfl⟩:=tdN h
  subst c3
  exact ⟨h1,fun b hb=>by unfold pceF;simp [hb],fun w _=>⟨w.1,⟨w.2.1.1,w.2.1.2.1,h2,w.2.1.2.2.2⟩,w.2.2⟩⟩
 rw [if_neg c3] at h
 by_cases c4:c=72
 ·rw [if_pos c4] at h
  obtain ⟨m,h1,h2,rfl⟩:=tdN h
  subst c4
  exact ⟨h1,fun b hb=>by unfold pceF;simp [hb],fun w _=>⟨w.1,⟨w.2.1.1,w.2.1.2.1,w.2.1.2.2.1,h2⟩,w.2.2⟩⟩
 rw [if_neg c4] at h
 by_cases c5:c=67
 ·rw [if_pos c5] at h
  obtain ⟨m,h1,h2,rfl⟩:=tdC h
  subst c5
  exact ⟨h1,fun b hb=>by unfold pceF;simp [hb],fun w _=>⟨w.1,w.2.1,h2,w.2.2.2⟩⟩
 rw [if_neg c5] at h
 by_cases c6:c=66
 ·rw [if_pos c6] at h
  obtain ⟨m,h1,h2,rfl⟩:=tdC h
  subst c6
  exact ⟨h1,fun b hb=>by unfold pceF;simp [hb],fun w _=>⟨w.1,w.2.1,w.2.2.1,h2,w.2.2.2.2⟩⟩
 rw [if_neg c6] at h
 by_cases c7:c=78
 ·rw [if_pos c7] at h
  obtain ⟨m,h1,h2,rfl⟩:=tdN h
  subst c7
  exact ⟨h1,fun b hb=>by unfold pceF;simp [hb],fun w _=>⟨w.1,w.2.1,w.2.2.1,w.2.2.2.1,w.2.2.2.2.1,h2⟩⟩
 rw [if_neg c7] at h
 by_cases c8:c=84
 ·rw [if_pos c8] at h
  split at h
  ·next h0 =>
   injection h with h
   injection h with h1 h2
   subst h1
   subst h2
   subst c8
   obtain ⟨q1,q2⟩:=esA_ok h0
   exact ⟨q1,fun b hb=>by unfold pceF;simp [hb],fun w hl=>⟨w.1,w.2.1,w.2.2.1,w.2.2.2.1,by simp [ByteArray.size];omega,w.2.2.2.2.2⟩⟩
  ·cases h
 ·exfalso
  unfold leB at hc
  simp [c1,c2,c3,c4,c5,c6,c7,c8] at hc
def lets (l:List UInt8):List UInt8:=l.filter fun c=>!fxB c.toNat
theorem take_rnO (P:Nat→Bool) (l:List UInt8):l.take (rnO P l)=l.takeWhile (fun c=>P c.toNat):=(List.prefix_iff_eq_take.1 (List.takeWhile_prefix _)).symm
theorem drop_rnO (P:Nat→Bool) (l:List UInt8):l.drop (rnO P l)=l.dropWhile (fun c=>P c.toNat):=by
 have h:l.takeWhile (fun c=>P c.toNat)++l.dropWhile (fun c=>P c.toNat)=l:=List.takeWhile_append_dropWhile
 have h2:=congrArg (List.drop (rnO P l)) h
 rw [← h2]
 unfold rnO
 exact List.drop_left
theorem fix_pce (st:St) {b:UInt8} (h:fxB b.toNat=true):pceF st b.toNat=[b]:=by
 unfold fxB at h
 have hb:=b.toNat_lt
 have h':b.toNat<65∨90<b.toNat:=by simpa using h
 unfold pceF
 rw [if_neg (by omega),if_neg (by omega),if_neg (by omega),if_neg (by omega),if_neg (by omega),if_neg (by omega),if_neg (by omega),if_neg (by omega)]
 simp
theorem lin_fix (st:St):∀ l:List UInt8,(∀ b∈l,fxB b.toNat=true)→linF l st=l
 | [],_=>rfl
 | b :: l,h=>by
  rw [linF_cons,fix_pce st (h b (List.mem_cons_self ..)),lin_fix st l fun c hc=>h c (List.mem_cons_of_mem _ hc)]
  rfl
theorem bgB_app {s:ByteArray} {p:Nat} {x:List UInt8} (h:bgB s p x=true):rsL s p=x++rsL s (p+x.length):=by
 unfold bgB Lib.hasPrefix at h
 obtain ⟨t,ht⟩:=List.isPrefixOf_iff_prefix.1 h
 have:rsL s (p+x.length)=t:=by
  unfold rsL at ht ⊢
  rw [← List.drop_drop,← ht,List.drop_left]
 rw [this,ht]
theorem lnL_text (s:ByteArray) (hs:s.size≤100000):∀ (f:Nat) (form:List UInt8) (p:Nat) (st st':St) (q:Nat),form.length<f→(lets form).Nodup→(∀ c∈lets form,leB c.toNat=true)→WfS st →
  lnL f form s p st = .inr (st',q)→rsL s p=linF form st'++rsL s q∧(∀ b:UInt8,b ∉ lets form→pceF st' b.toNat=pceF st b.toNat)∧WfS st'
 | 0,_,_,_,_,_,hf,_,_,_,_=>by omega
 | f+1,form,p,st,st',q,hf,hn,hl,hw,h=>by
  have hpre:∀ b∈form.takeWhile (fun c=>fxB c.toNat),fxB b.toNat=true:=fun b hb=>by
   exact List.all_eq_true.1 List.all_takeWhile b hb
  have hlet0:lets (form.takeWhile (fun c=>fxB c.toNat))=[]:=by
   unfold lets
   rw [List.filter_eq_nil_iff]
   intro b hb
   rw [hpre b hb]
   decide
  have hall:form=form.takeWhile (fun c=>fxB c.toNat)++form.dropWhile (fun c=>fxB c.toNat):=List.takeWhile_append_dropWhile.symm
  have hle:lets form=lets (form.dropWhile (fun c=>fxB c.toNat)):=by
   rw [hall]
   unfold lets at hlet0 ⊢
   rw [List.filter_append,hlet0,← hall]
   rfl
  have hlen:(form.take (rnO fxB form)).length=rnO fxB form:=by
   rw [List.length_take]
   have:=rnO_le fxB form
   omega
  rw [lnL] at h
  split at h
  ·cases h
  ·next hb =>
   have hb:bgB s p (form.take (rnO fxB form))=true:=by simpa using hb
   have ha:=bgB_app hb
   rw [hlen] at ha
   have hd:=drop_rnO fxB form
   split at h
   ·next he =>
    injection h with h
    injection h with h1 h2
    subst h1
    subst h2
    rw [hd] at he
    have hf2:form=form.take (rnO fxB form):=by
     rw [take_rnO]
     rw [he,List.append_nil] at hall
     exact hall
    refine ⟨?_,fun b _=>rfl,hw⟩
    rw [ha]
    congr 1
    rw [lin_fix st form fun b hb=>by
     rw [hf2,take_rnO] at hb
     exact hpre b hb]
    exact hf2.symm
   ·next c rest he =>
    rw [hd] at he
    have hcf:fxB c.toNat=false:=by
     have:=List.head?_dropWhile_not (fun c:UInt8=>fxB c.toNat) form
     rw [he] at this
     simpa using this
    have hlr:lets form=c :: lets rest:=by
     rw [hle,he]
     unfold lets
     rw [List.filter_cons,hcf]
     rfl
    rw [hlr] at hn hl
    split at h
    ·cases h
    ·next st2 n htd =>
     have g:=tdL_good (hl c (List.mem_cons_self ..)) htd
     have hn1:c ∉ lets rest:=(List.nodup_cons.1 hn).1
     have hlen2:form.length=rnO fxB form+(rest.length+1):=by
      have:=congrArg List.length hall
      rw [he,List.length_append] at this
      exact this
     obtain ⟨i1,i2,i3⟩:=lnL_text s hs f rest _ st2 st' q (by omega) (List.nodup_cons.1 hn).2 (fun c hc=>hl c (List.mem_cons_of_mem _ hc)) (g.wf hw (by
      rw [rsL_len]
      omega)) h
     refine ⟨?_,fun b hb=>?_,i3⟩
     ·have e1:rsL s (p+rnO fxB form)=pceF st' c.toNat++rsL s (p+rnO fxB form+n):=by
       rw [i2 c hn1,← g.ok]
       unfold rsL
       rw [show List.drop (p+rnO fxB form+n) s.data.toList=List.drop n (List.drop (p+rnO fxB form) s.data.toList) from (List.drop_drop ..).symm]
       exact (List.take_append_drop ..).symm
      have e2:linF form st'=form.take (rnO fxB form)++(pceF st' c.toNat++linF rest st'):=by
       rw [hall,he,linF_app,linF_cons,← he,← hall,lin_fix st' _ hpre,← take_rnO]
      rw [ha,e1,i1,e2]
      simp only [List.append_assoc]
     ·rw [hlr] at hb
      rw [i2 b fun hm=>hb (List.mem_cons_of_mem _ hm),g.oth b.toNat fun e=>hb (by
       have:b=c:=UInt8.toNat_inj.1 e
       rw [this]
       exact List.mem_cons_self ..)]
theorem zSo_wf:WfS zSo:=by
 have z:I64 0:=z64
 exact ⟨⟨Int.le_refl _,by decide⟩,⟨z,z,z,z⟩,⟨⟨by decide,by decide⟩,⟨by decide,by decide⟩,⟨by decide,by decide⟩,⟨by decide,by decide⟩⟩,⟨⟨by decide,by decide⟩,⟨by decide,by decide⟩,⟨by decide,by decide⟩,⟨by decide,by decide⟩⟩,by simp [ByteArray.size,zSo],z⟩
theorem form_lets:∀ k:Fin 6,(lets (forF (k.val:Int))).Nodup∧∀ c∈lets (forF (k.val:Int)),leB c.toNat=true:=by decide +kernel
theorem head_lets:(lets hedF).Nodup∧∀ c∈lets hedF,leB c.toNat=true:=by decide +kernel
theorem skF_text {s:ByteArray} (hs:s.size≤100000) {p:Nat}:∀ (f k:Nat) (st:St) (q:Nat),k+f≤6→skF s p f k = .inr (st,q)→rsL s p=strF st++rsL s q∧WfS st
 | 0,k,st,q,_,h=>by rw [skF] at h;cases h
 | f+1,k,st,q,hk,h=>by
  rw [skF] at h
  split at h
  ·split at h
   ·cases h
   ·next st0 q0 hl =>
    injection h with h
    injection h with h1 h2
    subst h1
    subst h2
    have fl:=form_lets ⟨k,by omega⟩
    obtain ⟨i1,_,i3⟩:=lnL_text s hs _ _ p zSo st0 q0 (Nat.lt_succ_self _) fl.1 fl.2 zSo_wf hl
    exact ⟨i1,⟨⟨by show (0:Int)≤(k:Int);omega,by show (k:Int)≤255;omega⟩,i3.2⟩⟩
  ·exact skF_text hs f (k+1) st q (by omega) h
theorem tdL_il {c:Nat} {r:List UInt8} {st:St} {o:Nat} (h:tdL c r st = .inl o):o≤r.length:=by
 have hn:∀ (f:Int→St) (m:Nat),(match nuL r with | some n=>(Sum.inr (f n,m):Nat ⊕ (St × Nat)) | none=>.inl 0) = .inl o→o≤r.length:=fun f m h=>by
  split at h
  ·cases h
  ·injection h with h;omega
 have hc:∀ (f:Co→St) (m:Nat),(match coL r with | some n=>(Sum.inr (f n,m):Nat ⊕ (St × Nat)) | none=>.inl 0) = .inl o→o≤r.length:=fun f m h=>by
  split at h
  ·cases h
  ·injection h with h;omega
 unfold tdL at h
 by_cases c1:c=88
 ·rw [if_pos c1] at h;exact hn _ _ h
 rw [if_neg c1] at h
 by_cases c1:c=89
 ·rw [if_pos c1] at h;exact hn _ _ h
 rw [if_neg c1] at h
 by_cases c1:c=87
 ·rw [if_pos c1] at h;exact hn _ _ h
 rw [if_neg c1] at h
 by_cases c1:c=72
 ·rw [if_pos c1] at h;exact hn _ _ h
 rw [if_neg c1] at h
 by_cases c1:c=67
 ·rw [if_pos c1] at h;exact hc _ _ h
 rw [if_neg c1] at h
 by_cases c1:c=66
 ·rw [if_pos c1] at h;exact hc _ _ h
 rw [if_neg c1] at h
 by_cases c1:c=78
 ·rw [if_pos c1] at h;exact hn _ _ h
 rw [if_neg c1] at h
 by_cases c1:c=84
 ·rw [if_pos c1] at h
  split at h
  ·cases h
  ·injection h with h
   have h1:=(vpA_err ⟨(pcE r).toArray⟩).2
   have h2:=pcE_len r
   unfold esA at h
   simp [ByteArray.size] at h1
   omega
 ·rw [if_neg c1] at h
  cases h
theorem lnL_sz (s:ByteArray):∀ (f:Nat) (form:List UInt8) (p:Nat) (st:St),p≤s.size→(∀ q,lnL f form s p st = .inl q→q≤s.size)∧(∀ st' q,lnL f form s p st = .inr (st',q)→q≤s.size)
 | 0,_,p,_,hp=>⟨fun q h=>(by rw [lnL] at h;cases h),fun st' q h=>(by rw [lnL] at h;injection h with h;injection h with _ h;omega)⟩
 | f+1,form,p,st,hp=>by
  have hlen:(form.take (rnO fxB form)).length=rnO fxB form:=by
   rw [List.length_take]
   have:=rnO_le fxB form
   omega
  rw [lnL]
  split
  ·exact ⟨fun q h=>(by injection h with h;omega),fun _ _ h=>(by cases h)⟩
  ·next hb =>
   have hb:bgB s p (form.take (rnO fxB form))=true:=by simpa using hb
   have hq:p+rnO fxB form≤s.size:=by
    rcases bgB_len hb with h | h
    ·omega
    ·have:=congrArg List.length h
     rw [hlen] at this
     simp at this
     omega
   split
   ·exact ⟨fun _ h=>(by cases h),fun _ q h=>(by injection h with h;injection h with _ h;omega)⟩
   ·next c rest he =>
    have hr:=rsL_len s (p+rnO fxB form)
    split
    ·next o ho =>
     have:=tdL_il ho
     exact ⟨fun q h=>(by injection h with h;omega),fun _ _ h=>(by cases h)⟩
    ·next st2 n hn =>
     have:=tdL_le hn
     exact lnL_sz s f rest _ st2 (by omega)
theorem skF_sz {s:ByteArray} {p:Nat} (hp:p≤s.size):∀ (f k:Nat),(∀ q,skF s p f k = .inl q→q≤s.size)∧(∀ st' q,skF s p f k = .inr (st',q)→q≤s.size)
 | 0,k=>⟨fun q h=>(by rw [skF] at h;injection h with h;omega),fun _ _ h=>(by rw [skF] at h;cases h)⟩
 | f+1,k=>by
  rw [skF]
  have hl:=lnL_sz s ((forF k).length+1) (forF k) p zSo hp
  split
  ·split
   ·next q0 h0=>exact ⟨fun q h=>(by injection h with h;rw [← h];exact hl.1 _ h0),fun _ _ h=>(by cases h)⟩
   ·next st0 q0 h0=>exact ⟨fun _ h=>(by cases h),fun _ q h=>(by injection h with h;injection h with _ h;rw [← h];exact hl.2 _ _ h0)⟩
  ·exact skF_sz hp f (k+1)
theorem skL_le {s:ByteArray} {p q:Nat} {st:St} (hp:p≤s.size) (h:skL s p = .inr (st,q)):q≤s.size:=(skF_sz hp 5 1).2 _ _ h
theorem vsF_text {s:ByteArray} (hs:s.size≤100000):∀ (f p:Nat) (acc l:List St),s.size<f+p→p≤s.size→vsF s f p acc = .inr l→∃ l',l=acc++l'∧rsL s p=shpF l'++lstF∧Wfs l'
 | 0,_,_,_,h1,h2,_=>by omega
 | f+1,p,acc,l,h1,h2,h=>by
  rw [vsF] at h
  split at h
  ·next hb =>
   split at h
   ·cases h
   ·next hq =>
    injection h with h
    subst h
    refine ⟨[],by simp,?_,fun s hs=>by cases hs⟩
    rw [bgB_app hb]
    have:rsL s (p+lstF.length)=[]:=by
     unfold rsL
     rw [List.drop_eq_nil_iff]
     have e:=dl_len s
     have e2:lstF.length=10:=rfl
     omega
    rw [this]
    simp [shpF]
  ·split at h
   ·cases h
   ·next st q hk =>
    obtain ⟨k1,k2⟩:=skF_text hs 5 1 st q (by omega) hk
    have hgt:=skL_gt hk
    have hq:q≤s.size:=skL_le h2 hk
    obtain ⟨l',e1,e2,e3⟩:=vsF_text hs f q (acc++[st]) l (by omega) hq h
    refine ⟨st :: l',by rw [e1];simp,?_,fun x hx=>?_⟩
    ·rw [k1,e2]
     simp [shpF]
    ·rcases List.mem_cons.1 hx with rfl | hx
     ·exact k2
     ·exact e3 x hx
theorem head_hd (h:St):linF hedF h=hdF h.r.w h.r.h:=rfl
theorem vsR_text {s:ByteArray} (hs:s.size≤100000) {l:List St} {zw zh:Int} (h:vsR s = .inr (l,zw,zh)):s.data.toList=texF l zw zh∧Wfs l∧I64 zw∧I64 zh:=by
 unfold vsR at h
 split at h
 ·cases h
 ·next hd p h0 =>
  have hp:=(lnL_sz s 22 hedF 0 zSo (Nat.zero_le _)).2 _ _ h0
  obtain ⟨a1,_,a3⟩:=lnL_text s hs 22 hedF 0 zSo hd p (by decide) head_lets.1 head_lets.2 zSo_wf h0
  split at h
  ·cases h
  ·next l2 h2 =>
   injection h with h
   injection h with e1 e2
   injection e2 with e2 e3
   obtain ⟨l',b1,b2,b3⟩:=vsF_text hs _ p [] l2 (by omega) hp h2
   rw [List.nil_append] at b1
   subst b1
   subst e1
   subst e2
   subst e3
   refine ⟨?_,b3,a3.2.1.2.2.1,a3.2.1.2.2.2⟩
   have a0:rsL s 0=s.data.toList:=rfl
   rw [← a0,a1,b2,head_hd]
   unfold texF
   simp only [List.append_assoc]
end Go.Proofs.YtapachlhdgehjaaGreatDoor

/- errors.As at an error of the reader, whose place is behind one Unwrap; faultOf. -/
namespace Go.Proofs.YtapachlhdgehjaaGreatDoor
open Go.RowKit Go.Extern.Stop Go.Stop Go.Extern
theorem Tryz.valueOfPP (t:Addr) (w:World):(ReflectliteValue.unpack (.iface 126 (.pointer (some t)))).run Tryz.prog w
  = .ok (.agg #[.pointer (some ⟨12,126,none⟩),.pointer (some ⟨w.heap.size,0,none⟩),.int .u64 150]) (w.alloc (.cells #[.pointer (some t)] 126)):=by kernel_rfl
theorem Tryz.typePP (a : Addr) (w : World) : (ReflectliteValue.methodAny (ReflectliteValue.valueError "reflectlite.Value.Type" 0) (fun t _ _ _ => ReflectliteType.toType t) #[.agg #[.pointer (some ⟨12, 126, none⟩), .pointer (some a), .int .u64 150]]).run Tryz.prog w
  = .ok (.iface 225 (.agg #[.pointer (some ⟨12,126,none⟩)])) w:=by kernel_rfl
theorem Tryz.methodKind (h : Value) (w : World) : (Go.method 424 225 (.agg #[h]) "Kind").run Tryz.prog w = .ok (222, h) w := by kernel_rfl
theorem Tryz.kindPP (w:World):((ReflectliteType.abiMethod fun t=>(fun a:Nat=>Value.int IntKind.u8 (a:Int)) <$> Rtype.kind t) #[.pointer (some ⟨12,126,none⟩)]).run Tryz.prog w = .ok (.int .u8 22) w:=by kernel_rfl
theorem Tryz.kindP (w:World):((ReflectliteType.abiMethod fun t=>(fun a:Nat=>Value.int IntKind.u8 (a:Int)) <$> Rtype.kind t) #[.pointer (some ⟨12,124,none⟩)]).run Tryz.prog w = .ok (.int .u8 22) w:=by kernel_rfl
theorem rlm (z:Sem Value) (f:TypeId→Addr→Nat→Nat→Sem Value) (v:Value) :
  ReflectliteValue.method z f #[v]=(do match ← ReflectliteValue.parts v with | none=>z | some (t,a,fl)=>f t a fl (fl % 32)):=rfl
theorem Tryz.partsPP (a:Addr) (w:World):(ReflectliteValue.parts (.agg #[.pointer (some ⟨12,126,none⟩),.pointer (some a),.int .u64 150])).run Tryz.prog w = .ok (some (126,a,150)) w:=by kernel_rfl
theorem Tryz.isNilPP (a p:Addr) (W:World) (ha:W.cell? a=some (.pointer (some p))) :
  (ReflectliteValue.method (ReflectliteValue.valueError "reflectlite.Value.IsNil" 0) ReflectliteValue.isNil #[.agg #[.pointer (some ⟨12, 126, none⟩), .pointer (some a), .int .u64 150]]).run Tryz.prog W = .ok (.bool false) W := by
 rw [rlm]
 simp only [Sem.run_bind,Tryz.partsPP,Result.andThen]
 simp [ReflectliteValue.isNil,loadVar,isAgg,underlying,Tryz.underlying126,ha,Result.andThen]
theorem Tryz.methodElem (h : Value) (w : World) : (Go.method 424 225 (.agg #[h]) "Elem").run Tryz.prog w = .ok (236, .agg #[h]) w := by kernel_rfl
theorem Tryz.methodImplements (h : Value) (w : World) : (Go.method 424 225 (.agg #[h]) "Implements").run Tryz.prog w = .ok (237, .agg #[h]) w := by kernel_rfl
theorem Tryz.methodAssignableTo (h : Value) (w : World) : (Go.method 424 225 (.agg #[h]) "AssignableTo").run Tryz.prog w = .ok (234, .agg #[h]) w := by kernel_rfl
theorem Tryz.methodUnwrap (h : Value) (w : World) : (Go.method 424 163 h "Unwrap").run Tryz.prog w = .ok (229, h) w := by kernel_rfl
theorem Tryz.elemPP (w:World):(ReflectliteType.method ReflectliteType.elem #[.agg #[.pointer (some ⟨12,126,none⟩)]]).run Tryz.prog w = .ok (.iface 225 (.agg #[.pointer (some ⟨12,124,none⟩)])) w:=by kernel_rfl
theorem Tryz.implementsP (w : World) : (ReflectliteType.relation "Implements" ReflectliteType.implements_ #[.agg #[.pointer (some ⟨12, 124, none⟩)], .iface 225 (.agg #[.pointer (some ⟨12, 80, none⟩)])]).run Tryz.prog w = .ok (.bool true) w := by kernel_rfl
theorem Tryz.typeOfP (v:Value) (w:World):(ReflectliteType.typeOf #[.iface 124 v]).run Tryz.prog w = .ok (.iface 225 (.agg #[.pointer (some ⟨12,124,none⟩)])) w:=by kernel_rfl
theorem Tryz.typeOfW (v:Value) (w:World):(ReflectliteType.typeOf #[.iface 163 v]).run Tryz.prog w = .ok (.iface 225 (.agg #[.pointer (some ⟨12,163,none⟩)])) w:=by kernel_rfl
theorem Tryz.assignableP (w : World) : (ReflectliteType.relation "AssignableTo" ReflectliteType.assignableTo #[.agg #[.pointer (some ⟨12, 124, none⟩)], .iface 225 (.agg #[.pointer (some ⟨12, 124, none⟩)])]).run Tryz.prog w = .ok (.bool true) w := by kernel_rfl
theorem Tryz.assignableW (w : World) : (ReflectliteType.relation "AssignableTo" ReflectliteType.assignableTo #[.agg #[.pointer (some ⟨12, 163, none⟩)], .iface 225 (.agg #[.pointer (some ⟨12, 124, none⟩)])]).run Tryz.prog w = .ok (.bool false) w := by kernel_rfl
theorem Tryz.valueOfP (e:Addr) (w:World):(ReflectliteValue.unpack (.iface 124 (.pointer (some e)))).run Tryz.prog w
  = .ok (.agg #[.pointer (some ⟨12,124,none⟩),.pointer (some ⟨w.heap.size,0,none⟩),.int .u64 150]) (w.alloc (.cells #[.pointer (some e)] 124)):=by kernel_rfl
theorem Tryz.noAs (v:Value) (w:World):(Instr.typeAssert (.iface 163 v) 80 230 true).run Tryz.prog w = .ok (.tuple #[.nilIface,.bool false]) w:=run_typeAssert_lacksB Tryz.underlying230 (by kernel_rfl) (by kernel_rfl) v _ w
theorem Tryz.hasUnwrap (v:Value) (w:World):(Instr.typeAssert (.iface 163 v) 80 233 true).run Tryz.prog w = .ok (.tuple #[.iface 163 v,.bool true]) w:=run_typeAssert_hasB Tryz.underlying233 (by kernel_rfl) v _ w
theorem Tryz.elemOfPP (w:World):(Rtype.elem? 126).run Tryz.prog w = .ok (some 124) w:=by kernel_rfl
theorem Tryz.mkP (p:Addr) (w:World):(ReflectliteValue.mk 124 p ReflectliteValue.flagAddr).run Tryz.prog w = .ok (.agg #[.pointer (some ⟨12,124,none⟩),.pointer (some p),.int .u64 406]) w:=by kernel_rfl
theorem Tryz.elemVPP (a p:Addr) (W:World) (ha:W.cell? a=some (.pointer (some p))) :
  (ReflectliteValue.method (ReflectliteValue.valueError "reflectlite.Value.Elem" 0) ReflectliteValue.elem #[.agg #[.pointer (some ⟨12, 126, none⟩), .pointer (some a), .int .u64 150]]).run Tryz.prog W
   = .ok (.agg #[.pointer (some ⟨12,124,none⟩),.pointer (some p),.int .u64 406]) W:=by
 rw [rlm]
 simp only [Sem.run_bind,Tryz.partsPP,Result.andThen]
 simp [ReflectliteValue.elem,loadVar,isAgg,underlying,Tryz.underlying126,ha,Result.andThen,Tryz.elemOfPP,Tryz.mkP]
theorem rls (v x:Value):ReflectliteValue.set #[v,x]=(do
  let (some (dst,a,fl),some (src,b,_)):=(← ReflectliteValue.parts v,← ReflectliteValue.parts x)
   | unsupported (.noEntry "extern/(internal/reflectlite.Value).Set.zeroValue")
  if fl / ReflectliteValue.flagAddr % 2 == 0 then unsupported (.noEntry "extern/(internal/reflectlite.Value).Set.unaddressable")
  let val ← loadVar src b
  if ← Rtype.directlyAssignable dst src then storeVar dst a val
  else if ← Rtype.implements dst src then
   if (← Rtype.kind src)==20 then
    match val with
    | .nilIface => unsupported (.noEntry "extern/reflectlite: a nil value of one interface type handed on as a value of another")
    | _=>storeVar dst a val
   else storeVar dst a (.iface src val)
  else panicString ("reflectlite.Set: value of type " ++ (← Rtype.spelt src) ++ " is not assignable to type " ++ (← Rtype.spelt dst))
  pure (.tuple #[])):=rfl
theorem Tryz.partsPa (a:Addr) (w:World):(ReflectliteValue.parts (.agg #[.pointer (some ⟨12,124,none⟩),.pointer (some a),.int .u64 406])).run Tryz.prog w = .ok (some (124,a,406)) w:=by kernel_rfl
theorem Tryz.partsP (a:Addr) (w:World):(ReflectliteValue.parts (.agg #[.pointer (some ⟨12,124,none⟩),.pointer (some a),.int .u64 150])).run Tryz.prog w = .ok (some (124,a,150)) w:=by kernel_rfl
theorem Tryz.directP (w:World):(Rtype.directlyAssignable 124 124).run Tryz.prog w = .ok true w:=by kernel_rfl
theorem Tryz.setP (ta b e:Addr) (old:Value) (W:World) (hb:W.cell? b=some (.pointer (some e))) (ht:W.cell? ta=some old) (hf:W.frozen? ta=false) :
  (ReflectliteValue.set #[.agg #[.pointer (some ⟨12,124,none⟩),.pointer (some ta),.int .u64 406],.agg #[.pointer (some ⟨12,124,none⟩),.pointer (some b),.int .u64 150]]).run Tryz.prog W
   = .ok (.tuple #[]) (W.setCell ta (.pointer (some e))):=by
 rw [rls]
 simp only [Sem.run_bind,Tryz.partsPa,Tryz.partsP,Result.andThen]
 simp [ReflectliteValue.flagAddr,loadVar,isAgg,underlying,Tryz.underlying124,hb,Result.andThen,Tryz.directP,storeVar,Value.cells,storeCells,Addr.add]
 rw [run_store Tryz.prog W ta _ _ (by rfl)]
 simp [ht,hf]
end Go.Proofs.YtapachlhdgehjaaGreatDoor

/- errors.As at an error of the reader, walked; faultOf. -/
namespace Go.Proofs.YtapachlhdgehjaaGreatDoor
open Go.RowKit Go.Extern.Stop Go.Stop Go.Extern
def asW (w:World) (t f:Nat):World:=(((w.alloc (.cells #[.pointer (some ⟨t,0,none⟩)] 126)).alloc (.cells #[.pointer (some ⟨12,126,none⟩),.pointer (some ⟨w.heap.size,0,none⟩),.int .u64 150] 169)).alloc (.cells #[.pointer (some ⟨12,126,none⟩),.pointer (some ⟨w.heap.size,0,none⟩),.int .u64 150] 169)).alloc (.cells #[.pointer (some ⟨f,0,none⟩)] 124)
set_option maxRecDepth 10000 in
set_option maxHeartbeats 4000000 in
theorem as_chain (g f t:Nat) (old:Value) (w:World) (hg:w.cell? ⟨0,0,none⟩=some (.iface 225 (.agg #[.pointer (some ⟨12,80,none⟩)])))
  (hw:w.cell? ⟨g,1,none⟩=some (.pointer (some ⟨f,0,none⟩))) (ht0:w.cell? ⟨t,0,none⟩=some old) (hf0:w.frozen? ⟨t,0,none⟩=false) :
  Calls Tryz.prog 71 #[.iface 163 (.pointer (some ⟨g,0,none⟩)),.iface 126 (.pointer (some ⟨t,0,none⟩))] w fun ev w'=>ev = .returned (.bool true)∧w'=(asW w t f).setCell ⟨t,0,none⟩ (.pointer (some ⟨f,0,none⟩)):=by
 have h6:=@run_callFunc_extern Tryz.prog 105 _ (fun args=>ReflectliteValue.unpack (args.getD 0 (.tuple #[]))) Tryz.func105 (by kernel_rfl) (by kernel_rfl) (by kernel_rfl) (by kernel_rfl)
 have h7 := @run_callFunc_extern Tryz.prog 106 _ (ReflectliteValue.methodAny (ReflectliteValue.valueError "reflectlite.Value.Type" 0) (fun t _ _ _ => ReflectliteType.toType t)) Tryz.func106 (by kernel_rfl) (by kernel_rfl) (by kernel_rfl) (by kernel_rfl)
 have h8 := @run_callFunc_extern Tryz.prog 107 _ (ReflectliteValue.method (ReflectliteValue.valueError "reflectlite.Value.IsNil" 0) ReflectliteValue.isNil) Tryz.func107 (by kernel_rfl) (by kernel_rfl) (by kernel_rfl) (by kernel_rfl)
 have h27:=@run_callFunc_extern Tryz.prog 222 _ (ReflectliteType.abiMethod fun t=>do pure (.int .u8 (← Rtype.kind t))) Tryz.func222 (by kernel_rfl) (by kernel_rfl) (by kernel_rfl) (by kernel_rfl)
 have h37:=@run_callFunc_extern Tryz.prog 236 _ (ReflectliteType.method ReflectliteType.elem) Tryz.func236 (by kernel_rfl) (by kernel_rfl) (by kernel_rfl) (by kernel_rfl)
 have h38 := @run_callFunc_extern Tryz.prog 237 _ (ReflectliteType.relation "Implements" ReflectliteType.implements_) Tryz.func237 (by kernel_rfl) (by kernel_rfl) (by kernel_rfl) (by kernel_rfl)
 have h10:=@run_callFunc_extern Tryz.prog 144 _ ReflectliteType.typeOf Tryz.func144 (by kernel_rfl) (by kernel_rfl) (by kernel_rfl) (by kernel_rfl)
 have h35 := @run_callFunc_extern Tryz.prog 234 _ (ReflectliteType.relation "AssignableTo" ReflectliteType.assignableTo) Tryz.func234 (by kernel_rfl) (by kernel_rfl) (by kernel_rfl) (by kernel_rfl)
 have h11 := @run_callFunc_extern Tryz.prog 145 _ (ReflectliteValue.method (ReflectliteValue.valueError "reflectlite.Value.Elem" 0) ReflectliteValue.elem) Tryz.func145 (by kernel_rfl) (by kernel_rfl) (by kernel_rfl) (by kernel_rfl)
 have h12:=@run_callFunc_extern Tryz.prog 146 _ ReflectliteValue.set Tryz.func146 (by kernel_rfl) (by kernel_rfl) (by kernel_rfl) (by kernel_rfl)
 have tO:=Tryz.typeOfP
 have tW:=Tryz.typeOfW
 have mA:=Tryz.methodAssignableTo
 have mU:=Tryz.methodUnwrap
 have aP:=Tryz.assignableP
 have aW:=Tryz.assignableW
 have vP:=Tryz.valueOfP
 have f6:=Tryz.valueOfPP
 have f7:=Tryz.typePP
 have mK:=Tryz.methodKind
 have mE:=Tryz.methodElem
 have mI:=Tryz.methodImplements
 have kPP:=Tryz.kindPP
 have kP:=Tryz.kindP
 have ePP:=Tryz.elemPP
 have iP:=Tryz.implementsP
 have nA:=Tryz.noAs
 have hU:=Tryz.hasUnwrap
 have htl:t<w.heap.size:=by
  rcases Nat.lt_or_ge t w.heap.size with h | h
  ·exact h
  ·simp [World.cell?,Array.getElem?_eq_none h] at ht0
 have hgl:g<w.heap.size:=by
  rcases Nat.lt_or_ge g w.heap.size with h | h
  ·exact h
  ·simp [World.cell?,Array.getElem?_eq_none h] at hw
 have hlt:0<w.heap.size:=by
  rcases Nat.lt_or_ge 0 w.heap.size with h | h
  ·exact h
  ·simp [World.cell?,Array.getElem?_eq_none h] at hg
 obtain ⟨W2,hW2⟩:∃ W2,W2=((w.alloc (.cells #[.pointer (some ⟨t,0,none⟩)] 126)).alloc (.cells #[.pointer (some ⟨12,126,none⟩),.pointer (some ⟨w.heap.size,0,none⟩),.int .u64 150] 169)):=⟨_,rfl⟩
 subst hW2
 have n8:=Tryz.isNilPP ⟨w.heap.size,0,none⟩ ⟨t,0,none⟩ ((w.alloc (.cells #[.pointer (some ⟨t,0,none⟩)] 126)).alloc (.cells #[.pointer (some ⟨12,126,none⟩),.pointer (some ⟨w.heap.size,0,none⟩),.int .u64 150] 169)) (by simp)
 have hg2:((w.alloc (.cells #[.pointer (some ⟨t,0,none⟩)] 126)).alloc (.cells #[.pointer (some ⟨12,126,none⟩),.pointer (some ⟨w.heap.size,0,none⟩),.int .u64 150] 169)).cell? ⟨0,0,none⟩=some (.iface 225 (.agg #[.pointer (some ⟨12,80,none⟩)])):=by
  rw [World.cell?_alloc_lt _ _ ⟨0,0,none⟩ (by simp),World.cell?_alloc_lt _ _ ⟨0,0,none⟩ hlt];exact hg
 have hw3:(((w.alloc (.cells #[.pointer (some ⟨t,0,none⟩)] 126)).alloc (.cells #[.pointer (some ⟨12,126,none⟩),.pointer (some ⟨w.heap.size,0,none⟩),.int .u64 150] 169)).alloc (.cells #[.pointer (some ⟨12,126,none⟩),.pointer (some ⟨w.heap.size,0,none⟩),.int .u64 150] 169)).cell? ⟨g,1,none⟩=some (.pointer (some ⟨f,0,none⟩)):=by
  rw [World.cell?_alloc_lt _ _ ⟨g,1,none⟩ (by simp;omega),World.cell?_alloc_lt _ _ ⟨g,1,none⟩ (by simp;omega),World.cell?_alloc_lt _ _ ⟨g,1,none⟩ hgl];exact hw
 have el:=Tryz.elemVPP ⟨w.heap.size,0,none⟩ ⟨t,0,none⟩ (((w.alloc (.cells #[.pointer (some ⟨t,0,none⟩)] 126)).alloc (.cells #[.pointer (some ⟨12,126,none⟩),.pointer (some ⟨w.heap.size,0,none⟩),.int .u64 150] 169)).alloc (.cells #[.pointer (some ⟨12,126,none⟩),.pointer (some ⟨w.heap.size,0,none⟩),.int .u64 150] 169)) (by rw [World.cell?_alloc_lt _ _ ⟨w.heap.size,0,none⟩ (by simp;omega)];simp)
 have st:=Tryz.setP ⟨t,0,none⟩ ⟨w.heap.size+1+1+1,0,none⟩ ⟨f,0,none⟩ old ((((w.alloc (.cells #[.pointer (some ⟨t,0,none⟩)] 126)).alloc (.cells #[.pointer (some ⟨12,126,none⟩),.pointer (some ⟨w.heap.size,0,none⟩),.int .u64 150] 169)).alloc (.cells #[.pointer (some ⟨12,126,none⟩),.pointer (some ⟨w.heap.size,0,none⟩),.int .u64 150] 169)).alloc (.cells #[.pointer (some ⟨f,0,none⟩)] 124))
  (by rw [World.cell?_alloc_at _ _ _ _ (by simp)];rfl)
  (by rw [World.cell?_alloc_lt _ _ ⟨t,0,none⟩ (by simp;omega),World.cell?_alloc_lt _ _ ⟨t,0,none⟩ (by simp;omega),World.cell?_alloc_lt _ _ ⟨t,0,none⟩ (by simp;omega),World.cell?_alloc_lt _ _ ⟨t,0,none⟩ htl];exact ht0)
  (by rw [World.frozen?_alloc_old _ _ ⟨t,0,none⟩ (by simp;omega),World.frozen?_alloc_old _ _ ⟨t,0,none⟩ (by simp;omega),World.frozen?_alloc_old _ _ ⟨t,0,none⟩ (by simp;omega),World.frozen?_alloc_old _ _ ⟨t,0,none⟩ (Nat.ne_of_lt htl)];exact hf0)
 go_enter Tryz.func71,Tryz.ntmps71
 go_wp2
 refine wp_loop_rounds 2 ?_
 rw [rounds_succ]
 go_wp2
 rw [rounds_succ]
 go_wp2
 go_ret
 exact ⟨rfl,rfl⟩
theorem asW_below (w:World) (t f:Nat):Below w.heap.size w (asW w t f):=by
 unfold asW
 have b1:Below w.heap.size w (w.alloc (.cells #[.pointer (some ⟨t,0,none⟩)] 126)):=(Below.refl _ w).alloc (Nat.le_refl _) _
 have b2:=b1.alloc b1.size (.cells #[.pointer (some ⟨12,126,none⟩),.pointer (some ⟨w.heap.size,0,none⟩),.int .u64 150] 169)
 have b3:=b2.alloc b2.size (.cells #[.pointer (some ⟨12,126,none⟩),.pointer (some ⟨w.heap.size,0,none⟩),.int .u64 150] 169)
 exact b3.alloc b3.size _
theorem size_fault:(Tryz.prog.info? 84).map (·.size)=some 2:=by kernel_rfl
def EtI (w:World):Prop:=w.cell? ⟨0,0,none⟩=some (.iface 225 (.agg #[.pointer (some ⟨12,80,none⟩)]))
set_option maxRecDepth 10000 in
set_option maxHeartbeats 4000000 in
theorem fault_any (lo p:Nat) (v:Value) (w:World) (h:IsW lo w v p) (hg:EtI w) :
  Calls Tryz.prog 37 #[v] w fun e w'=>e = .returned (.agg #[.int .i64 160,.int .i64 (p:Nat)])∧Below w.heap.size w w':=by
 obtain ⟨g,f,must,rfl,_,_,hbg,hbf⟩:=h
 obtain ⟨zb,hzb⟩:∃ zb,zb=w.heap.size:=⟨_,rfl⟩
 obtain ⟨t,ht⟩:∃ t,t=w.heap.size+1:=⟨_,rfl⟩
 have hgl:g<zb:=by rw [hzb];exact hbg.lt
 have hfl:f<zb:=by rw [hzb];exact hbf.lt
 have HW:Hid (zb=w.heap.size∧t=w.heap.size+1):=⟨hzb,ht⟩
 have H0:Hid (∀ W,W=((w.alloc (.cells #[.int .i64 0,.int .i64 0] 84)).alloc (.cells #[.pointer none] 124))→EtI W∧Bk W zb #[.int .i64 0,.int .i64 0] 84∧Bk W t #[.pointer none] 124∧Bk W g #[.string must,.pointer (some ⟨f,0,none⟩)] 165∧Bk W f #[.int .i64 160,.int .i64 (p:Nat)] 84∧Below w.heap.size w W):=fun W hW=>by
  have b1:Below w.heap.size w (w.alloc (.cells #[.int .i64 0,.int .i64 0] 84)):=(Below.refl _ w).alloc (Nat.le_refl _) _
  have e:(w.alloc (.cells #[.int .i64 0,.int .i64 0] 84)).heap.size=w.heap.size+1:=by simp
  have b2:Below (w.heap.size+1) (w.alloc (.cells #[.int .i64 0,.int .i64 0] 84)) W:=by rw [hW,← e];exact (Below.refl _ _).alloc (Nat.le_refl _) _
  have b3:Below w.heap.size w W:=b1.trans (b2.mono (by omega))
  refine ⟨?_,?_,?_,hbg.below b3,hbf.below b3,b3⟩
  ·have hl:0<w.heap.size:=by
    rcases Nat.lt_or_ge 0 w.heap.size with h | h
    ·exact h
    ·exact absurd hg (by unfold EtI;simp [World.cell?,Array.getElem?_eq_none h])
   unfold EtI
   rw [b3.cell (p:=⟨0,0,none⟩) hl]
   exact hg
  ·rw [hzb];exact (Bk.new w _ _).below (by rw [e];exact b2)
  ·rw [hW,ht,← e];exact Bk.new _ _ _
 clear hbg hbf hg
 go_enter Tryz.func37,Tryz.ntmps37
 go_wp2_with fail
 obtain ⟨W0,hW0⟩:∃ W0,W0=((w.alloc (.cells #[.int .i64 0,.int .i64 0] 84)).alloc (.cells #[.pointer none] 124)):=⟨_,rfl⟩
 have H1:=show Hid _ from H0.out W0 hW0
 rw [← hW0,← ht,← hzb]
 clear hW0 H0 hzb ht
 have n1:zb≠t:=by have:=HW.out;omega
 have n2:f≠t:=by have:=HW.out;omega
 refine (as_chain g f t (.pointer none) W0 H1.out.1 (Bk.cell H1.out.2.2.2.1 1) (Bk.cell H1.out.2.2.1 0) (Bk.frozen H1.out.2.2.1 0)).mono ?_
 rintro e w' ⟨rfl,hw'⟩
 have H2:Hid (Bk w' zb #[.int .i64 0,.int .i64 0] 84∧Bk w' t #[.pointer (some ⟨f,0,none⟩)] 124∧Bk w' f #[.int .i64 160,.int .i64 (p:Nat)] 84∧Below w.heap.size w w'):=by
  have k1:Kp2 t t W0 w':=by rw [hw'];exact (Kp2.of_below (asW_below W0 t f)).trans (Kp2.put _ _ _ _ _)
  have hb:=H1.out.2.2.2.2.2
  exact ⟨k1.bk H1.out.2.1 n1 n1,by rw [hw'];exact Bk.put (H1.out.2.2.1.below (asW_below W0 t f)) 0 _,k1.bk H1.out.2.2.2.2.1 n2 n2,hb.trans (k1.below hb.size (by have:=HW.out;omega) (by have:=HW.out;omega))⟩
 clear hw' H1
 have c0:=Bk.cell H2.out.2.1 0
 have d0:=Bk.cell H2.out.2.2.1 0
 have d1:=Bk.cell H2.out.2.2.1 1
 simp only [List.getElem?_toArray,List.getElem?_cons_zero,List.getElem?_cons_succ] at c0 d0 d1
 go_wp2_with (refine wpList_store_row rfl 84 (.tmp 2) (.tmp 9) rfl zb #[.int .i64 160,.int .i64 (p:Nat)] rfl rfl 84 _ H2.out.1 size_fault rfl (by simp [Value.oneCell']) ?_)
 obtain ⟨W3,hW3⟩:∃ W3,W3=w'.setRow zb #[.int .i64 160,.int .i64 (p:Nat)]:=⟨_,rfl⟩
 rw [← hW3]
 have hB3:Bk W3 zb #[.int .i64 160,.int .i64 (p:Nat)] 84:=by rw [hW3];exact setRow_heap _ _ _ _ _ _ H2.out.1
 have hld:(loadVar 84 ⟨zb,0,none⟩).run Tryz.prog W3 = .ok (.agg #[.int .i64 160,.int .i64 (p:Nat)]) W3:=run_loadVar_row W3 zb 84 84 #[.int .i64 160,.int .i64 (p:Nat)] (0,0) _ hB3 Tryz.underlying84 rfl size_fault
 have hK3:Kp2 zb zb w' W3:=by rw [hW3];exact Kp2.row _ _ _ _
 refine bodyPost_ret (v:=.agg #[.int .i64 160,.int .i64 (p:Nat)]) ?_ rfl ⟨rfl,H2.out.2.2.2.trans (hK3.below H2.out.2.2.2.size (by have:=HW.out;omega) (by have:=HW.out;omega))⟩
 simp [results,Tryz.results37,asAddr,hld,Act.put]
end Go.Proofs.YtapachlhdgehjaaGreatDoor
