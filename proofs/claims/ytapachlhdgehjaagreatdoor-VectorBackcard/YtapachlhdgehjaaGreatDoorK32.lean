/-
  Texts of this claim, one behind the other: what each is about stands ahead of it.
-/
import Derived.Test.YtapachlhdgehjaaGreatDoorK31
import Derived.Test.YtapachlhdgehjaaGreatDoorK2
import Derived.Lib.ItoaNum
import Derived.Lib.ItoaLen
import Derived.Lib.UnsafeStr
import Derived.Lib.AppendStr
import Derived.Lib.OwnKind
import Derived.Shelf.LaysM
import Derived.Shelf.Strconv.AppendIntPublic10
import Derived.Shelf.Small.Strs
import Derived.Test.YtapachlhdgehjaaGreatDoorProg
import Derived.Test.YtapachlhdgehjaaGreatDoorK3
import Derived.Test.YtapachlhdgehjaaGreatDoorK0
/- Texts of shapes in plain words: escaped texts, numbers, lines; rows of bytes of one's own. -/
namespace Go.Proofs.YtapachlhdgehjaaGreatDoor
open Go.RowKit Go.Lib
def stD (b:Nat):Bool:=(((!(b==38)) && !(b==60))&&((!(b==62)) && !(b==34)))&&(decide (32<b)&&decide (b<127))
def escB (b:UInt8):List UInt8:=if stD b.toNat=true then [b] else [38,bt (b.toNat / 16),bt (b.toNat % 16),59]
def escL (l:List UInt8):List UInt8:=l.flatMap escB
theorem escB_len (b:UInt8):(escB b).length≤4:=by
 unfold escB
 split <;> simp
theorem escL_len:∀ l:List UInt8,(escL l).length≤4 * l.length
 | []=>Nat.le_refl _
 | b :: l=>by
  have h1:=escL_len l
  have h2:=escB_len b
  show (escB b++escL l).length≤_
  rw [List.length_append,List.length_cons]
  omega
theorem escL_cons (b:UInt8) (l:List UInt8):escL (b :: l)=escB b++escL l:=rfl
theorem escL_app (a b:List UInt8):escL (a++b)=escL a++escL b:=List.flatMap_append
def pceF (s:St) (b:Nat):List UInt8 :=
 if b=88 then itoa s.r.x else if b=89 then itoa s.r.y else if b=87 then itoa s.r.w else if b=72 then itoa s.r.h
 else if b=67 then (txt s.c).data.toList else if b=66 then (txt s.b).data.toList else if b=78 then itoa s.n else if b=84 then escL s.t.data.toList else [UInt8.ofNat b]
def linF (form:List UInt8) (s:St):List UInt8:=form.flatMap fun b=>pceF s b.toNat
theorem linF_cons (b:UInt8) (l:List UInt8) (s:St):linF (b :: l) s=pceF s b.toNat++linF l s:=rfl
theorem linF_app (a b:List UInt8) (s:St):linF (a++b) s=linF a s++linF b s:=List.flatMap_append
theorem txt_len (c:Co):(txt c).data.toList.length≤9:=by
 unfold txt txtL
 split
 ·simp
 ·split <;> simp
def hedF:List UInt8:=[60,115,104,97,112,101,115,32,119,61,34,87,34,32,104,61,34,72,34,62,10]
def lstF:List UInt8:=[60,47,115,104,97,112,101,115,62,10]
def filF:List UInt8:=[60,102,105,108,108,32,120,61,34,88,34,32,121,61,34,89,34,32,119,61,34,87,34,32,104,61,34,72,34,32,99,61,34,67,34,32,110,61,34,78,34,47,62,10]
def vfrF:List UInt8:=[60,102,114,97,109,101,32,120,61,34,88,34,32,121,61,34,89,34,32,119,61,34,87,34,32,104,61,34,72,34,32,99,61,34,67,34,32,110,61,34,78,34,47,62,10]
def wriF:List UInt8:=[60,119,114,105,116,101,32,120,61,34,88,34,32,121,61,34,89,34,32,119,61,34,87,34,32,104,61,34,72,34,32,99,61,34,67,34,32,98,61,34,66,34,32,110,61,34,78,34,62,84,60,47,119,114,105,116,101,62,10]
def cliF:List UInt8:=[60,99,108,105,112,32,120,61,34,88,34,32,121,61,34,89,34,32,119,61,34,87,34,32,104,61,34,72,34,32,110,61,34,78,34,62,10]
def opeF:List UInt8:=[60,47,99,108,105,112,32,110,61,34,78,34,62,10]
def forF (k:Int):List UInt8:=if k=1 then filF else if k=2 then vfrF else if k=3 then wriF else if k=4 then cliF else opeF
def strF (s:St):List UInt8:=linF (forF s.k) s
def shpF (l:List St):List UInt8:=l.flatMap strF
def hdF (zw zh:Int):List UInt8:=linF hedF ⟨0,⟨0,0,zw,zh⟩,⟨0,0,0,0⟩,⟨0,0,0,0⟩,ByteArray.empty,0⟩
def texF (l:List St) (zw zh:Int):List UInt8:=hdF zw zh++shpF l++lstF
def sizB (zw zh:Int):Bool:=((decide (0≤zw))&&decide (zw≤16384))&&((decide (0≤zh))&&decide (zh≤16384))
def texE (l:List St) (zw zh:Int):Int:=if chkS l≠0 then chkS l else if sizB zw zh=false then 9 else if 65536<(texF l zw zh).length then 3 else 0
def texT (l:List St) (zw zh:Int):List UInt8:=if texE l zw zh=0 then texF l zw zh else []
def OwY (lo:Nat) (w:World) (v:Value) (l:List UInt8):Prop:=w.ownsRow lo 5 1 v l.length (byteCells l)
theorem OwY.nil (lo:Nat) (w:World):OwY lo w (.slice none 0 0) []:=World.ownsRow_nil _ _ _ _
theorem OwY.below {lo:Nat} {w w':World} {v:Value} {l:List UInt8} (h:OwY lo w v l) (hb:Below w.heap.size w w'):OwY lo w' v l:=own_below h hb
structure KpY (lo:Nat) (w w':World):Prop where
 b:Below lo w w'
 k:Lib.OthersKept 5 none w w'
theorem KpY.refl (lo:Nat) (w:World):KpY lo w w:=⟨Below.refl _ _,Lib.OthersKept.refl _ _ _⟩
theorem KpY.trans {lo:Nat} {a b c:World} (h:KpY lo a b) (k:KpY lo b c):KpY lo a c:=⟨h.b.trans k.b,h.k.trans k.k⟩
theorem KpY.alloc {lo:Nat} {a w:World} (h:KpY lo a w) (hlo:lo≤a.heap.size) (o:Obj):KpY lo a (w.alloc o):=⟨h.b.alloc (Nat.le_trans hlo h.b.size) o,h.k.alloc o⟩
theorem KpY.grown {lo:Nat} {a w w':World} {v:Value} {n:Nat} {xs:List Value} (h:KpY lo a w) (hlo:lo≤a.heap.size) (ho:w.ownsRow lo 5 1 v n xs) (hg:w.grownBy w' v.ownBlock):KpY lo a w' :=
 ⟨h.b.grown hg (Nat.le_trans hlo h.b.size) (fun b hb=>(ho.lt b hb).1),h.k.grown hg (Lib.ownsRow_kind ho)⟩
theorem KpY.of_below {lo:Nat} {w w':World} (hlo:lo≤w.heap.size) (h:Below w.heap.size w w'):KpY lo w w' :=
 ⟨h.mono hlo,fun k o hk _ _=>by rw [h.block k (Array.getElem?_eq_some_iff.1 hk).1];exact hk⟩
theorem KpY.cell {lo:Nat} {w w':World} (h:KpY lo w w') {g:Nat} {cs:Array Value} {t:TypeId} {fz:Nat × Nat} (hg:w.heap[g]? = some (.cells cs t fz)) (ht:t≠5):w'.heap[g]? = some (.cells cs t fz) :=
 h.k g _ hg (by simp) (fun c fz e=>by injection e with _ e;exact ht e)
end Go.Proofs.YtapachlhdgehjaaGreatDoor

/- Contracts of package vector: stands, appendEscaped. -/
namespace Go.Proofs.YtapachlhdgehjaaGreatDoor
open Go.RowKit Go.Lib
set_option maxHeartbeats 1000000 in
theorem stands_any (b:Nat) (w:World) (hb:b<256) :
  Calls Tryz.prog 137 #[.int .u8 b] w fun e w'=>e = .returned (.bool (stD b))∧w'=w:=by
 go_enter Tryz.func137,Tryz.ntmps137
 go_wp2
 all_goals
  go_ret
  refine ⟨ret_bool ?_,rfl⟩
  simp [stD]
  try (intros;simp only [beq_eq_false_iff_ne,beq_iff_eq,ne_eq] at *;omega)
theorem byteCells_ones (l:List UInt8):∀ u∈byteCells l,u.oneCell'=true:=by
 intro u hu
 simp only [byteCells,List.mem_map] at hu
 obtain ⟨b,_,rfl⟩:=hu
 rfl
theorem byteCells_at (l:List UInt8) (j:Nat) (h:j<l.length):(byteCells l)[j]? = some (.int .u8 (l[j].toNat:Int)):=by
 simp [byteCells,List.getElem?_map,List.getElem?_eq_getElem h]
theorem alc_new (w:World) (o:Obj):(w.alloc o).heap[w.heap.size]? = some o:=by
 show (w.heap.push o)[w.heap.size]? = _
 exact Array.getElem?_push_size
theorem lit_src {W:World} {g:Nat} {vs:Array Value} {t:TypeId} {fz:Nat × Nat} (h:W.heap[g]? = some (.cells vs t fz)) (l:List Value) (hl:vs.toList=l):∀ j u,l[j]? = some u→W.cell? ((⟨g,0,none⟩:Addr).add j)=some u:=by
 intro j u hj
 rw [add_at]
 simp only [World.cell?,h]
 rw [← hl] at hj
 simpa using hj
theorem info_byte:∃ i,Tryz.prog.info? 5=some i∧i.zero=some (.int .u8 0)∧i.size=1∧i.bytes=1:=info_parts8 info_u8
theorem app_lit {w:World} {ops:Array Oper} {rest:List Oper} {o:Oper} {a:Act} {Q:Exit→Act→World→Prop} (hgd:o.guard=none) (s x:Operand)
  (ho:o.op = .call { callee:=.builtin .append,args:=#[s,x],argTypes:=#[77,77] })
  (lo:Nat) (v:Value) (xs ys:List UInt8) (hs:a.eval s=v) (hown:OwY lo w v xs) (g n m c:Nat) (vs:Array Value) (t:TypeId) (hx:a.eval x = .slice (some ⟨g,0,none⟩) m c) (hm:m=ys.length) (hg:w.heap[g]? = some (.cells vs t)) (hv:vs.toList=byteCells ys)
  (hlo:lo≤w.heap.size) (hl:xs.length+ys.length≤140737488355328) (hn:n=xs.length+ys.length)
  (h:∀ v' w',w'.ownsRow lo 5 1 v' n (byteCells (xs++ys))→KpY lo w w'→wpList Tryz.prog ops Q rest (a.put o.dst v') w'):wpList Tryz.prog ops Q (o :: rest) a w:=by
 obtain ⟨i0,hi,hz0,hz1,hz2⟩:=info_byte
 subst hm
 refine wpList_append_own _ hgd s x _ ho lo 5 i0 (.int .u8 0) 1 1 Tryz.underlying77 hi hz0 hz1 hz2 rfl (by decide) v xs.length (byteCells xs) hs hown ⟨g,0,none⟩ ys.length c (byteCells ys) hx (by rw [byteCells_length,Nat.mul_one]) (lit_src hg _ hv) (byteCells_ones ys) (by unfold maxLen;omega) (by omega) hlo ?_
 intro v' w' h2 h3 _
 refine h v' w' ?_ ((KpY.refl lo w).grown hlo hown h3)
 rw [hn,byteCells_append]
 exact h2
theorem app_txt {w:World} {ops:Array Oper} {rest:List Oper} {o:Oper} {a:Act} {Q:Exit→Act→World→Prop} (hgd:o.guard=none) (s x:Operand)
  (ho:o.op = .call { callee:=.builtin .append,args:=#[s,x],argTypes:=#[77,9] })
  (lo:Nat) (v:Value) (xs:List UInt8) (y:ByteArray) (hs:a.eval s=v) (hown:OwY lo w v xs) (hx:a.eval x = .string y)
  (hlo:lo≤w.heap.size) (hl:xs.length+y.size≤140737488355328)
  (h:∀ v' w',OwY lo w' v' (xs++y.data.toList)→KpY lo w w'→wpList Tryz.prog ops Q rest (a.put o.dst v') w'):wpList Tryz.prog ops Q (o :: rest) a w:=by
 obtain ⟨i0,hi,hz0,hz1,hz2⟩:=info_byte
 refine Lib.wpList_append_own_string _ hgd s x _ _ ho lo 5 i0 Tryz.underlying77 Tryz.underlying9 hi hz0 hz1 hz2 v xs.length (byteCells xs) hs hown y hx (by unfold maxLen;omega) hl hlo ?_
 intro v' w' h2 h3 _
 refine h v' w' ?_ ((KpY.refl lo w).grown hlo hown h3)
 unfold OwY
 rw [byteCells_append,List.length_append]
 rw [Lib.strCells_eq] at h2
 exact h2
end Go.Proofs.YtapachlhdgehjaaGreatDoor

/- Contracts of package vector: appendEscaped. -/
namespace Go.Proofs.YtapachlhdgehjaaGreatDoor
open Go.RowKit Go.Lib
theorem vapp_step {w:World} {ops:Array Oper} {o:Oper} {a:Act} {K:Act→World→Prop} {Q:Exit→Act→World→Prop} {E:Prop} (hgd:o.guard=none) (s x:Operand)
  (ho:o.op = .call { callee:=.builtin .append,args:=#[s,x],argTypes:=#[77,77] })
  (lo:Nat) (v:Value) (xs ys:List UInt8) (hs:a.eval s=v) (hown:OwY lo w v xs) (g n m c:Nat) (vs:Array Value) (t:TypeId) (hx:a.eval x = .slice (some ⟨g,0,none⟩) m c) (hm:m=ys.length) (hm0:0<m) (hg:w.heap[g]? = some (.cells vs t)) (hv:vs.toList=byteCells ys)
  (hlo:lo≤w.heap.size) (hl:xs.length+ys.length≤140737488355328) (hn:n=xs.length+ys.length)
  (h:∀ v' w',w'.ownsRow lo 5 1 v' n (byteCells (xs++ys))→KpY lo w w'→K (a.put o.dst v') w') :
  if Region.wanted o (yielded ops a.tmps)=true then Oper.wp Tryz.prog o a w K Q else E:=by
 obtain ⟨i0,hi,hz0,hz1,hz2⟩:=info_byte
 subst hm
 refine step_append_lies w hgd s x _ ho lo 5 i0 (.int .u8 0) 1 1 Tryz.underlying77 hi hz0 hz1 hz2 rfl (by decide) v xs.length (byteCells xs) hs hown ⟨g,0,none⟩ ys.length c (byteCells ys) hx (by rw [byteCells_length,Nat.mul_one]) (lit_src hg _ hv) (byteCells_ones ys) hm0 (by unfold maxLen;omega) (by omega) hlo w.heap.size rfl ?_
 intro g' cap' w' h2 h3 _ _
 refine h _ w' ?_ ((KpY.refl lo w).grown hlo hown h3)
 rw [byteCells_append,← hn] at *
 exact h2
theorem take_next (s:ByteArray) (k:Nat) (h:k<s.size):s.data.toList.take (k+1)=s.data.toList.take k++[s[k]]:=by
 have h':k<s.data.toList.length:=by simpa using h
 rw [List.take_succ_eq_append_getElem h']
 rfl
theorem vtake_all (s:ByteArray):s.data.toList.take s.size=s.data.toList:=by
 have:s.data.toList.length=s.size:=by simp
 rw [← this,List.take_length]
structure EsW (lo:Nat) (w:World) (xs:List UInt8) (s:ByteArray) (k:Nat) (u:Value) (wr:World):Prop where
 ow:OwY lo wr u (xs++escL (s.data.toList.take k))
 kp:KpY lo w wr
 sz:lo≤wr.heap.size
set_option maxRecDepth 10000 in
set_option maxHeartbeats 4000000 in
theorem escd_any (lo:Nat) (v:Value) (xs:List UInt8) (s:ByteArray) (w:World) (h:OwY lo w v xs) (hlo:lo≤w.heap.size) (hl:xs.length+4 * s.size≤140737488355328) :
  Calls Tryz.prog 101 #[v,.string s] w fun e w'=>∃ v',e = .returned v'∧OwY lo w' v' (xs++escL s.data.toList)∧KpY lo w w':=by
 have H0:Hid (EsW lo w xs s 0 v w):=⟨by simpa [escL] using h,KpY.refl _ _,hlo⟩
 have HL:Hid (lo≤w.heap.size∧xs.length+4 * s.size≤140737488355328):=⟨hlo,hl⟩
 have HS:Hid (∀ (k:Nat) W,k<256→Calls Tryz.prog 137 #[.int .u8 k] W fun e w'=>e = .returned (.bool (stD k))∧w'=W):=fun k W hk=>stands_any k W hk
 have hsz:s.size≤9223372036854775807:=by omega
 clear h hlo hl
 go_enter Tryz.func101,Tryz.ntmps101
 go_wp2_with fail
 go_loopw [0,9] (fun u0 i wr=>∃ (u:Value) (k:Nat),u=u0∧k≤s.size∧i = .int .i64 k∧Hid (EsW lo w xs s k u wr)) (fun _ i _=>s.size - (RowKit.intOf i).toNat)
 case atStart=>exact ⟨v,0,rfl,Nat.zero_le _,rfl,H0⟩
 case round =>
  obtain ⟨u,k,rfl,hk,rfl,HR⟩:=hrel
  clear H0
  by_cases hlt:k<s.size
  ·have hb:=UInt8.toNat_lt s[k]
   have HX:Hid (∀ W V,W.ownsRow lo 5 1 V ((xs++escL (s.data.toList.take k)).length+(escB s[k]).length) (byteCells (xs++escL (s.data.toList.take k)++escB s[k]))→KpY lo w W→EsW lo w xs s (k+1) V W):=fun W V h1 h2=>by
    refine ⟨?_,h2,Nat.le_trans HL.out.1 h2.b.size⟩
    rw [take_next s k hlt,escL_app,← List.append_assoc]
    have e:escL [s[k]]=escB s[k]:=by simp [escL]
    rw [e]
    unfold OwY
    rw [List.length_append (bs:=escB s[k])]
    exact h1
   have hlen:Hid ((xs++escL (s.data.toList.take k)).length+4≤140737488355328):=by
    unfold Hid
    have h1:=escL_len (s.data.toList.take k)
    have h2:=HL.out.2
    have h3:(s.data.toList.take k).length≤k:=by simp;omega
    rw [List.length_append]
    omega
   obtain ⟨XS,hXS⟩:∃ XS,XS=xs++escL (s.data.toList.take k):=⟨_,rfl⟩
   rw [← hXS] at HX hlen
   have HO:Hid (OwY lo wr u XS∧KpY lo w wr∧lo≤wr.heap.size):=⟨by rw [hXS];exact HR.out.ow,HR.out.kp,HR.out.sz⟩
   clear hXS HR
   cases hst:stD (s[k]).toNat with
   | true =>
    have he:escB s[k]=[s[k]]:=by unfold escB;rw [if_pos hst]
    rw [he] at HX
    have HA:Hid (OwY lo (wr.alloc (.cells #[.int .u8 (s[k]).toNat] 5)) u XS∧KpY lo w (wr.alloc (.cells #[.int .u8 (s[k]).toNat] 5))∧lo≤(wr.alloc (.cells #[.int .u8 (s[k]).toNat] 5)).heap.size):=⟨own_below HO.out.1 ((Below.refl _ _).alloc (Nat.le_refl _) _),HO.out.2.1.alloc HL.out.1 _,by have:=HO.out.2.2;simp;omega⟩
    clear HO
    go_wp2_with (first | (go_at_call 137;refine (HS.out _ _ (by assumption)).mono ?_;rintro e w' ⟨rfl,hw⟩;obtain rfl:=hw.symm) | (at_builtin;go_loud (refine app_lit rfl _ _ rfl lo u XS [s[k]] rfl HA.out.1 wr.heap.size _ 1 1 #[.int .u8 (s[k]).toNat] 5 rfl rfl (alc_new _ _) rfl HA.out.2.2 (by have:=hlen.out;simp;omega) rfl ?_)))
    intro v1 w1 h1 h2
    have HF:=HX.out _ _ h1 (HA.out.2.1.trans h2)
    have HF':Hid (EsW lo w xs s (k+1) v1 w1):=HF
    clear h1 h2 HF HX HA
    go_wp2
    go_roundw
    case rel=>exact ⟨v1,k+1,rfl,by omega,by go_num,HF'⟩
    case measure=>simp [RowKit.intOf];omega
   | false =>
    have he:escB s[k]=[38,bt ((s[k]).toNat / 16),bt ((s[k]).toNat % 16),59]:=by unfold escB;rw [if_neg (by simp [hst])]
    have hq:((s[k]).toNat:Int) / 16=(((s[k]).toNat / 16:Nat):Int):=by omega
    have hq1:(s[k]).toNat / 16<16:=by omega
    have hr1:(s[k]).toNat % 16<16:=by omega
    have ha:=and15u ⟨(s[k]).toNat,hb⟩
    have HD:Hid (∀ (p:Nat) (h:p<16),((⟨#[48,49,50,51,52,53,54,55,56,57,97,98,99,100,101,102]⟩:ByteArray)[p]'(by simpa [ByteArray.size] using h)).toNat=sx p):=fun p h=>dig_at ⟨p,h⟩
    simp only at ha
    rw [he] at HX
    have HY:Hid (∀ W V,W.ownsRow lo 5 1 V (XS.length+4) (byteCells (XS++[38,bt ((s[k]).toNat / 16),bt ((s[k]).toNat % 16),59]))→KpY lo w W→EsW lo w xs s (k+1) V W):=HX.out
    clear HX he
    generalize (s[k]).toNat / 16=q at *
    generalize (s[k]).toNat % 16=r at *
    have hqI:(q:Int)<16:=by omega
    have hrI:(r:Int)<16:=by omega
    go_wp2_with (go_at_call 137;refine (HS.out _ _ (by assumption)).mono ?_;rintro e w' ⟨rfl,hw⟩;obtain rfl:=hw.symm)
    refine R3.wp_region_lit 7 1 2 (fun _ b=>.slice (some ⟨b,0,none⟩) 4 4) (fun _=>.cells #[.int .u8 38,.int .u8 (((⟨#[48,49,50,51,52,53,54,55,56,57,97,98,99,100,101,102]⟩:ByteArray)[q]'(by simpa [ByteArray.size] using hq1)).toNat:Nat),.int .u8 (((⟨#[48,49,50,51,52,53,54,55,56,57,97,98,99,100,101,102]⟩:ByteArray)[r]'(by simpa [ByteArray.size] using hr1)).toNat:Nat),.int .u8 59] 5) [28] (by kernel_rfl) (by kernel_rfl) rfl ?_ rfl ?_
    ·intro k hk
     have hc:k=0:=by omega
     subst hc;rfl
    apply Exists.intro
    refine ⟨fun bs ne=>?_,?_,?_⟩
    ·simp only [List.take_succ_cons,List.take_zero]
     repeat (go_big_quiet_step (fail))
     exact wpQuiet_nil rfl
    ·intro i h1 h2
     have hc:i=7:=by omega
     subst hc
     exact ⟨_,rfl,rfl,fun _=>by kernel_rfl⟩
    intro bl w2 hbl hlo2 _
    obtain ⟨q1,q2⟩:=hlo2 7 (by omega) (by omega)
    simp only [R3.layL]
    generalize bl 7=g0 at *
    clear hlo2
    refine wpAny_one 8 (by kernel_rfl) rfl ?_
    intro K hK
    have e1:=HD.out q hq1
    have e2:=HD.out r hr1
    have HE:=bt_nat hq1
    have HE2:=bt_nat hr1
    have HW:Hid (OwY lo w2 u XS∧KpY lo w w2∧lo≤w2.heap.size):=⟨HO.out.1.below hbl,HO.out.2.1.trans (KpY.of_below HO.out.2.2 hbl),Nat.le_trans HO.out.2.2 hbl.size⟩
    refine vapp_step (by rfl) _ _ (by rfl) lo u XS [38,bt q,bt r,59] (by rfl) HW.out.1 g0 _ 4 4 _ 5 (by rfl) rfl (by decide) q2 ?_ HW.out.2.2 (by have:=hlen.out;simp;omega) rfl ?_
    ·rw [e1,e2]
     simp [byteCells,HE,HE2]
    intro v1 w1 h1 h2
    have HF':Hid (EsW lo w xs s (k+1) v1 w1):=HY.out _ _ h1 (HW.out.2.1.trans h2)
    clear h1 h2 HY HW HO hbl q1 q2 HE HE2 e1 e2 HD
    refine hK _ _ ?_
    clear hK K
    refine wpAny_one 9 (by kernel_rfl) rfl ?_
    intro K hK
    go_simp
    refine hK _ _ ?_
    clear hK K
    refine wpAny_done (by kernel_rfl) ?_ _
    go_wp2
    go_roundw
    case rel=>exact ⟨v1,k+1,rfl,by omega,by go_num,HF'⟩
    case measure=>simp [RowKit.intOf];omega
  ·obtain rfl:k=s.size:=by omega
   go_wp2
   go_ret
   refine ⟨_,rfl,?_,HR.out.kp⟩
   have:=HR.out.ow
   rwa [vtake_all] at this
end Go.Proofs.YtapachlhdgehjaaGreatDoor

/- DERIVED: THE SHELF's CONTRACTS AT THIS DUMP, IN PLAIN WORDS (tools/lay-plain.mjs out of 'YtapachlhdgehjaaGreatDoorBS0.lean', which tools/lay-shelf.mjs wrote): THE SAME DECLARATIONS UNDER THE SAME NAMES: 'import', 'namespace', 'open', 'def', 'theorem' AND NOTHING ELSE: no command of the shelf's: FOR A HAND-IN. Each laying: the table of numbers ('.._ren') and one theorem, a field a fact of the dump's own or the kernel's comparison; each contract: ONE APPLICATION. -/
namespace Go.Proofs
open Go.Shelf
def Tryz.laysM176_ren:Go.Shelf.Ren:=⟨fun | 176=>133 | 249=>163 | 288=>175 | 283=>181 | 284=>182 | 285=>183 | 286=>184 | 129=>196 | 317=>195 | 318=>197 | 319=>198 | 320=>199 | 337=>204 | 338=>205 | n=>n,fun | 37=>77 | 2=>2 | 3=>3 | 53=>181 | 4=>4 | 9=>9 | 171=>268 | 0=>0 | 173=>271 | 212=>283 | 51=>178 | 5=>5 | 20=>20 | 213=>284 | 46=>127 | 232=>296 | 233=>297 | n=>n,fun | 17=>7 | 18=>10 | 19=>11 | n=>n⟩
theorem Tryz.laysM176:Go.Proofs.LaysM.n176 Tryz.prog Tryz.laysM176_ren:={
 mixed:=by kernel_rfl
 f129:=Tryz.func196.trans (congrArg some (by kernel_rfl))
 f176:=Tryz.func133.trans (congrArg some (by kernel_rfl))
 f249:=Tryz.func163.trans (congrArg some (by kernel_rfl))
 f283:=Tryz.func181.trans (congrArg some (by kernel_rfl))
 f284:=Tryz.func182.trans (congrArg some (by kernel_rfl))
 f285:=Tryz.func183.trans (congrArg some (by kernel_rfl))
 f286:=Tryz.func184.trans (congrArg some (by kernel_rfl))
 f288:=Tryz.func175.trans (congrArg some (by kernel_rfl))
 f317:=Tryz.func195.trans (congrArg some (by kernel_rfl))
 f318:=Tryz.func197.trans (congrArg some (by kernel_rfl))
 f319:=Tryz.func198.trans (congrArg some (by kernel_rfl))
 f320:=Tryz.func199.trans (congrArg some (by kernel_rfl))
 f337:=Tryz.func204.trans (congrArg some (by kernel_rfl))
 f338:=Tryz.func205.trans (congrArg some (by kernel_rfl))
 t0:=Tryz.underlying0
 a0:=Tryz.isAgg0
 z0:=Tryz.sizeOf0
 v0:=Tryz.zeroValue0
 t2:=Tryz.underlying2
 a2:=Tryz.isAgg2
 z2:=Tryz.sizeOf2
 v2:=Tryz.zeroValue2
 t3:=Tryz.underlying3
 a3:=Tryz.isAgg3
 z3:=Tryz.sizeOf3
 v3:=Tryz.zeroValue3
 t4:=Tryz.underlying4
 a4:=Tryz.isAgg4
 z4:=Tryz.sizeOf4
 v4:=Tryz.zeroValue4
 t5:=Tryz.underlying5
 a5:=Tryz.isAgg5
 z5:=Tryz.sizeOf5
 v5:=Tryz.zeroValue5
 t9:=Tryz.underlying9
 a9:=Tryz.isAgg9
 z9:=Tryz.sizeOf9
 v9:=Tryz.zeroValue9
 t20:=Tryz.underlying20
 a20:=Tryz.isAgg20
 z20:=Tryz.sizeOf20
 v20:=Tryz.zeroValue20
 t37:=Tryz.underlying77
 a37:=Tryz.isAgg77
 z37:=Tryz.sizeOf77
 v37:=Tryz.zeroValue77
 t46:=Tryz.underlying127
 a46:=Tryz.isAgg127
 z46:=Tryz.sizeOf127
 v46:=Tryz.zeroValue127
 t51:=Tryz.underlying178
 a51:=Tryz.isAgg178
 z51:=Tryz.sizeOf178
 v51:=Tryz.zeroValue178
 t53:=Tryz.underlying181
 a53:=Tryz.isAgg181
 z53:=Tryz.sizeOf181
 v53:=Tryz.zeroValue181
 t171:=Tryz.underlying268
 a171:=Tryz.isAgg268
 z171:=Tryz.sizeOf268
 v171:=Tryz.zeroValue268
 t173:=Tryz.underlying271
 a173:=Tryz.isAgg271
 z173:=Tryz.sizeOf271
 v173:=Tryz.zeroValue271
 t212:=Tryz.underlying283
 a212:=Tryz.isAgg283
 z212:=Tryz.sizeOf283
 v212:=Tryz.zeroValue283
 t213:=Tryz.underlying284
 a213:=Tryz.isAgg284
 z213:=Tryz.sizeOf284
 t232:=Tryz.underlying296
 a232:=Tryz.isAgg296
 z232:=Tryz.sizeOf296
 v232:=Tryz.zeroValue296
 t233:=Tryz.underlying297
 a233:=Tryz.isAgg297
 z233:=Tryz.sizeOf297
 v233:=Tryz.zeroValue297
 g17:=by kernel_rfl
 g18:=by kernel_rfl
 g19:=by kernel_rfl
 i0:=by kernel_rfl
 i2:=by kernel_rfl
 i3:=by kernel_rfl
 i4:=by kernel_rfl
 i5:=by kernel_rfl
 i9:=by kernel_rfl
 i20:=by kernel_rfl
 i37:=by kernel_rfl
 i46:=by kernel_rfl
 i51:=by kernel_rfl
 i53:=by kernel_rfl
 i171:=by kernel_rfl
 i173:=by kernel_rfl
 i212:=by kernel_rfl
 i232:=by kernel_rfl
 i233:=by kernel_rfl
 m17:=by kernel_rfl
 m18:=by kernel_rfl
 m19:=by kernel_rfl }
def Tryz.lays137_ren:Go.Shelf.Ren:=⟨fun | 137=>194 | 217=>171 | 266=>185 | n=>n,fun | 9=>9 | 5=>5 | 3=>3 | n=>n,fun | n=>n⟩
theorem Tryz.lays137:Go.Proofs.Lays.n137 Tryz.prog Tryz.lays137_ren:={
 mixed:=by kernel_rfl
 f137:=Tryz.func194.trans (congrArg some (by kernel_rfl))
 f217:=Tryz.func171.trans (congrArg some (by kernel_rfl))
 f266:=Tryz.func185.trans (congrArg some (by kernel_rfl))
 t3:=Tryz.underlying3
 a3:=Tryz.isAgg3
 z3:=Tryz.sizeOf3
 v3:=Tryz.zeroValue3
 t5:=Tryz.underlying5
 a5:=Tryz.isAgg5
 z5:=Tryz.sizeOf5
 v5:=Tryz.zeroValue5
 t9:=Tryz.underlying9
 a9:=Tryz.isAgg9
 z9:=Tryz.sizeOf9
 v9:=Tryz.zeroValue9 }
end Go.Proofs

/- Contract of package colour: Text, in six and in eight sixteens. -/
namespace Go.Proofs.YtapachlhdgehjaaGreatDoor
open Go.RowKit
set_option maxRecDepth 20000 in
set_option maxHeartbeats 2000000 in
theorem text_six (r g b:Nat) (w:World) (hr:r<256) (hg:g<256) (hb:b<256) (ht:tw r=false∨(tw r=true∧tw g=false)∨(tw r=true∧tw g=true∧tw b=false)) :
  Calls Tryz.prog 100 #[.agg #[.int .u8 r,.int .u8 g,.int .u8 b,.int .u8 255]] w fun e w'=>e = .returned (.string ⟨([35,bt (r / 16),bt (r % 16),bt (g / 16),bt (g % 16),bt (b / 16),bt (b % 16)]:List UInt8).toArray⟩)∧Below w.heap.size w w':=by
 have hT:Hid (∀ x w,x<256→Calls Tryz.prog 134 #[.int .u8 ((x:Nat):Int)] w fun e w'=>e = .returned (.bool (tw x))∧w'=w):=fun x w hx=>isTwice_any x w hx
 have hL:Hid (∀ x w,x<256→Calls Tryz.prog 135 #[.int .u8 ((x:Nat):Int)] w fun e w'=>e = .returned (.int .u8 ((sx (x % 16):Nat):Int))∧w'=w):=fun x w hx=>low_any x w hx
 have hH:Hid (∀ x w,x<256→Calls Tryz.prog 136 #[.int .u8 ((x:Nat):Int)] w fun e w'=>e = .returned (.int .u8 ((sx (x / 16):Nat):Int))∧w'=w):=fun x w hx=>high_any x w hx
 have HB:Hid (((bt (r / 16)).toNat:Int)=((sx (r / 16):Nat):Int)∧((bt (r % 16)).toNat:Int)=((sx (r % 16):Nat):Int)∧((bt (g / 16)).toNat:Int)=((sx (g / 16):Nat):Int)∧((bt (g % 16)).toNat:Int)=((sx (g % 16):Nat):Int)∧((bt (b / 16)).toNat:Int)=((sx (b / 16):Nat):Int)∧((bt (b % 16)).toNat:Int)=((sx (b % 16):Nat):Int)):=⟨bt_nat (by omega),bt_nat (Nat.mod_lt _ (by decide)),bt_nat (by omega),bt_nat (Nat.mod_lt _ (by decide)),bt_nat (by omega),bt_nat (Nat.mod_lt _ (by decide))⟩
 obtain ⟨i0,hi,hz0,hz1,hz2⟩:=info_parts8 info_u8
 rcases ht with t1 | ⟨t1,t2⟩ | ⟨t1,t2,t3⟩
 all_goals
  go_enter Tryz.func100,Tryz.ntmps100
  go_wp2_with (go_at_call 134;refine (hT.out _ _ (by assumption)).mono ?_;rintro e w' ⟨rfl,rfl⟩)
  have A:=AtC.new w r g b 255 38
  have L:Below w.heap.size w (w.alloc (.cells #[.int .u8 r,.int .u8 g,.int .u8 b,.int .u8 255] 38)):=(Below.refl _ w).alloc (Nat.le_refl _) _
  have sz:(w.alloc (.cells #[.int .u8 r,.int .u8 g,.int .u8 b,.int .u8 255] 38)).heap.size=w.heap.size+1:=by simp
  generalize hX0:w.alloc (.cells #[.int .u8 r,.int .u8 g,.int .u8 b,.int .u8 255] 38)=X0 at *
  have R0:=World.ownsRow_lit (base:=X0.heap.size) (e:=5) (size:=1) X0 #[.int .u8 35] 1 (Nat.le_refl _) (by decide) rfl
  have Z0:Below X0.heap.size X0 (X0.alloc (.cells #[.int .u8 35] 5)):=(Below.refl _ _).alloc (Nat.le_refl _) _
  rw [sz] at R0
  generalize hW0:X0.alloc (.cells #[.int .u8 35] 5)=W0 at *
  have HW:Hid (AtC X0 w.heap.size ⟨r,g,b,255⟩∧Below w.heap.size w X0∧Below X0.heap.size X0 W0∧W0.ownsRow (w.heap.size+1) 5 1 (.slice (some ⟨w.heap.size+1,0,none⟩) 1 1) 1 [.int .u8 35]∧X0.heap.size=w.heap.size+1):=⟨A,L,Z0,R0,sz⟩
  clear A L Z0 R0 hX0 hW0 sz
  refine R3.wp_region_lit 19 1 2 (fun _ b=>.slice (some ⟨b,0,none⟩) 6 6) (fun _=>.cells #[.int .u8 (sx (r / 16):Nat),.int .u8 (sx (r % 16):Nat),.int .u8 (sx (g / 16):Nat),.int .u8 (sx (g % 16):Nat),.int .u8 (sx (b / 16):Nat),.int .u8 (sx (b % 16):Nat)] 5) [55] (by kernel_rfl) (by kernel_rfl) rfl ?_ rfl ?_
  ·intro k hk
   have hc:k=0:=by omega
   subst hc;rfl
  apply Exists.intro
  refine ⟨fun bs ne=>?_,?_,?_⟩
  ·obtain ⟨A,L,Z,_⟩:=HW.out
   have d0:=fun t:Gb W0 bs=>(A.below (Z.trans (t.below.mono Z.size))).1
   have d1:=fun t:Gb W0 bs=>(A.below (Z.trans (t.below.mono Z.size))).2.1
   have d2:=fun t:Gb W0 bs=>(A.below (Z.trans (t.below.mono Z.size))).2.2.1
   have d3:=fun t:Gb W0 bs=>(A.below (Z.trans (t.below.mono Z.size))).2.2.2
   clear A L Z
   simp only [List.take_succ_cons,List.take_zero]
   repeat (go_big_quiet_step (first
    | (go_at_call 135;exact gb_same (hL.out _ _ (by assumption)))
    | (go_at_call 136;exact gb_same (hH.out _ _ (by assumption)))))
   exact wpQuiet_nil rfl
  ·intro i h1 h2
   have hc:i=19:=by omega
   subst hc
   exact ⟨_,rfl,rfl,fun _=>by kernel_rfl⟩
  intro bl wr hbl hlo _
  obtain ⟨q1,q2⟩:=hlo 19 (by omega) (by omega)
  simp only [R3.layL]
  generalize bl 19=g0 at *
  clear hlo
  obtain ⟨c1,_,_⟩:=heap_cells q2
  refine wpAny_one 20 (by kernel_rfl) rfl ?_
  intro K hK
  obtain ⟨A,L,Z,R,sz⟩:=HW.out
  replace R:=own_below R hbl
  replace Z:=Z.trans (hbl.mono Z.size)
  have zs:w.heap.size+1≤wr.heap.size:=by rw [← sz];exact Z.size
  refine step_append_lies wr (by rfl) _ _ 77 (by rfl) (w.heap.size+1) 5 i0 (.int .u8 0) 1 1 Tryz.underlying77 hi hz0 hz1 hz2 rfl (by decide) (.slice (some ⟨w.heap.size+1,0,none⟩) 1 1) 1 [.int .u8 35] (by rfl) R ⟨g0,0,none⟩ 6 6 [.int .u8 (sx (r / 16):Nat),.int .u8 (sx (r % 16):Nat),.int .u8 (sx (g / 16):Nat),.int .u8 (sx (g % 16):Nat),.int .u8 (sx (b / 16):Nat),.int .u8 (sx (b % 16):Nat)] (by rfl) rfl ?_ ?_ (by decide) (by decide) (by decide) zs wr.heap.size rfl ?_
  ·intro j u hj
   rw [add_at g0 j,c1 j]
   simpa using hj
  ·intro u hu
   simp at hu
   rcases hu with rfl | rfl | rfl | rfl | rfl | rfl <;> rfl
  intro h0 cap0 X1 hown hgrow _ _
  have L1:Below w.heap.size w X1:=by
   have h2:=Z.grown hgrow Z.size (fun b hb=>by have:=(R.lt b hb).1;omega)
   exact L.trans (h2.mono L.size)
  have hcv:=conv_own [35,bt (r / 16),bt (r % 16),bt (g / 16),bt (g % 16),bt (b / 16),bt (b % 16)] hown rfl (fun j hj=>by
    simp only [List.length_cons,List.length_nil] at hj
    obtain ⟨e1,e2,e3,e4,e5,e6⟩:=HB.out
    have hc:j=0∨j=1∨j=2∨j=3∨j=4∨j=5∨j=6:=by omega
    rcases hc with rfl | rfl | rfl | rfl | rfl | rfl | rfl
    ·rfl
    ·simp [e1]
    ·simp [e2]
    ·simp [e3]
    ·simp [e4]
    ·simp [e5]
    ·simp [e6])
  have cb:=(A.below (Z.grown hgrow Z.size (fun b hb=>by have:=(R.lt b hb).1;omega)))
  obtain ⟨d0,d1,d2,d3⟩:=cb
  have HL:Hid (Below w.heap.size w X1):=L1
  clear A L Z R sz zs hown hgrow c1 q1 q2 hbl L1
  refine hK _ _ ?_
  clear hK K
  refine wpAny_one 21 (by kernel_rfl) rfl ?_
  intro K hK
  go_simp
  refine hK _ _ ?_
  clear hK K
  refine wpAny_done (by kernel_rfl) ?_ _
  go_wp2
  go_ret
  exact ⟨rfl,HL.out⟩
set_option maxRecDepth 20000 in
set_option maxHeartbeats 2000000 in
theorem text_eight (r g b a:Nat) (w:World) (hr:r<256) (hg:g<256) (hb:b<256) (ha:a<256) (h255:((a:Int)==255)=false) :
  Calls Tryz.prog 100 #[.agg #[.int .u8 r,.int .u8 g,.int .u8 b,.int .u8 a]] w fun e w'=>e = .returned (.string ⟨([35,bt (r / 16),bt (r % 16),bt (g / 16),bt (g % 16),bt (b / 16),bt (b % 16),bt (a / 16),bt (a % 16)]:List UInt8).toArray⟩)∧Below w.heap.size w w':=by
 have hT:Hid (∀ x w,x<256→Calls Tryz.prog 134 #[.int .u8 ((x:Nat):Int)] w fun e w'=>e = .returned (.bool (tw x))∧w'=w):=fun x w hx=>isTwice_any x w hx
 have hL:Hid (∀ x w,x<256→Calls Tryz.prog 135 #[.int .u8 ((x:Nat):Int)] w fun e w'=>e = .returned (.int .u8 ((sx (x % 16):Nat):Int))∧w'=w):=fun x w hx=>low_any x w hx
 have hH:Hid (∀ x w,x<256→Calls Tryz.prog 136 #[.int .u8 ((x:Nat):Int)] w fun e w'=>e = .returned (.int .u8 ((sx (x / 16):Nat):Int))∧w'=w):=fun x w hx=>high_any x w hx
 have HB:Hid (((bt (r / 16)).toNat:Int)=((sx (r / 16):Nat):Int)∧((bt (r % 16)).toNat:Int)=((sx (r % 16):Nat):Int)∧((bt (g / 16)).toNat:Int)=((sx (g / 16):Nat):Int)∧((bt (g % 16)).toNat:Int)=((sx (g % 16):Nat):Int)∧((bt (b / 16)).toNat:Int)=((sx (b / 16):Nat):Int)∧((bt (b % 16)).toNat:Int)=((sx (b % 16):Nat):Int)∧((bt (a / 16)).toNat:Int)=((sx (a / 16):Nat):Int)∧((bt (a % 16)).toNat:Int)=((sx (a % 16):Nat):Int)):=⟨bt_nat (by omega),bt_nat (Nat.mod_lt _ (by decide)),bt_nat (by omega),bt_nat (Nat.mod_lt _ (by decide)),bt_nat (by omega),bt_nat (Nat.mod_lt _ (by decide)),bt_nat (by omega),bt_nat (Nat.mod_lt _ (by decide))⟩
 obtain ⟨i0,hi,hz0,hz1,hz2⟩:=info_parts8 info_u8
 go_enter Tryz.func100,Tryz.ntmps100
 go_wp2_with (go_at_call 134;refine (hT.out _ _ (by assumption)).mono ?_;rintro e w' ⟨rfl,rfl⟩)
 have A:=AtC.new w r g b a 38
 have L:Below w.heap.size w (w.alloc (.cells #[.int .u8 r,.int .u8 g,.int .u8 b,.int .u8 a] 38)):=(Below.refl _ w).alloc (Nat.le_refl _) _
 have sz:(w.alloc (.cells #[.int .u8 r,.int .u8 g,.int .u8 b,.int .u8 a] 38)).heap.size=w.heap.size+1:=by simp
 generalize hX0:w.alloc (.cells #[.int .u8 r,.int .u8 g,.int .u8 b,.int .u8 a] 38)=X0 at *
 have R0:=World.ownsRow_lit (base:=X0.heap.size) (e:=5) (size:=1) X0 #[.int .u8 35] 1 (Nat.le_refl _) (by decide) rfl
 have Z0:Below X0.heap.size X0 (X0.alloc (.cells #[.int .u8 35] 5)):=(Below.refl _ _).alloc (Nat.le_refl _) _
 rw [sz] at R0
 generalize hW0:X0.alloc (.cells #[.int .u8 35] 5)=W0 at *
 have HW:Hid (AtC X0 w.heap.size ⟨r,g,b,a⟩∧Below w.heap.size w X0∧Below X0.heap.size X0 W0∧W0.ownsRow (w.heap.size+1) 5 1 (.slice (some ⟨w.heap.size+1,0,none⟩) 1 1) 1 [.int .u8 35]∧X0.heap.size=w.heap.size+1):=⟨A,L,Z0,R0,sz⟩
 clear A L Z0 R0 hX0 hW0 sz
 refine R3.wp_region_lit 19 1 2 (fun _ b=>.slice (some ⟨b,0,none⟩) 6 6) (fun _=>.cells #[.int .u8 (sx (r / 16):Nat),.int .u8 (sx (r % 16):Nat),.int .u8 (sx (g / 16):Nat),.int .u8 (sx (g % 16):Nat),.int .u8 (sx (b / 16):Nat),.int .u8 (sx (b % 16):Nat)] 5) [55] (by kernel_rfl) (by kernel_rfl) rfl ?_ rfl ?_
 ·intro k hk
  have hc:k=0:=by omega
  subst hc;rfl
 apply Exists.intro
 refine ⟨fun bs ne=>?_,?_,?_⟩
 ·obtain ⟨A,L,Z,_⟩:=HW.out
  have d0:=fun t:Gb W0 bs=>(A.below (Z.trans (t.below.mono Z.size))).1
  have d1:=fun t:Gb W0 bs=>(A.below (Z.trans (t.below.mono Z.size))).2.1
  have d2:=fun t:Gb W0 bs=>(A.below (Z.trans (t.below.mono Z.size))).2.2.1
  have d3:=fun t:Gb W0 bs=>(A.below (Z.trans (t.below.mono Z.size))).2.2.2
  clear A L Z
  simp only [List.take_succ_cons,List.take_zero]
  repeat (go_big_quiet_step (first
   | (go_at_call 135;exact gb_same (hL.out _ _ (by assumption)))
   | (go_at_call 136;exact gb_same (hH.out _ _ (by assumption)))))
  exact wpQuiet_nil rfl
 ·intro i h1 h2
  have hc:i=19:=by omega
  subst hc
  exact ⟨_,rfl,rfl,fun _=>by kernel_rfl⟩
 intro bl wr hbl hlo _
 obtain ⟨q1,q2⟩:=hlo 19 (by omega) (by omega)
 simp only [R3.layL]
 generalize bl 19=g0 at *
 clear hlo
 obtain ⟨c1,_,_⟩:=heap_cells q2
 refine wpAny_one 20 (by kernel_rfl) rfl ?_
 intro K hK
 obtain ⟨A,L,Z,R,sz⟩:=HW.out
 replace R:=own_below R hbl
 replace Z:=Z.trans (hbl.mono Z.size)
 have zs:w.heap.size+1≤wr.heap.size:=by rw [← sz];exact Z.size
 refine step_append_lies wr (by rfl) _ _ 77 (by rfl) (w.heap.size+1) 5 i0 (.int .u8 0) 1 1 Tryz.underlying77 hi hz0 hz1 hz2 rfl (by decide) (.slice (some ⟨w.heap.size+1,0,none⟩) 1 1) 1 [.int .u8 35] (by rfl) R ⟨g0,0,none⟩ 6 6 [.int .u8 (sx (r / 16):Nat),.int .u8 (sx (r % 16):Nat),.int .u8 (sx (g / 16):Nat),.int .u8 (sx (g % 16):Nat),.int .u8 (sx (b / 16):Nat),.int .u8 (sx (b % 16):Nat)] (by rfl) rfl ?_ ?_ (by decide) (by decide) (by decide) zs wr.heap.size rfl ?_
 ·intro j u hj
  rw [add_at g0 j,c1 j]
  simpa using hj
 ·intro u hu
  simp at hu
  rcases hu with rfl | rfl | rfl | rfl | rfl | rfl <;> rfl
 intro h0 cap0 X1 hown hgrow _ _
 have Z1:=Z.grown hgrow Z.size (fun b hb=>by have:=(R.lt b hb).1;omega)
 have cb:=A.below Z1
 have HW':Hid (AtC X0 w.heap.size ⟨r,g,b,a⟩∧Below w.heap.size w X0∧Below X0.heap.size X0 X1∧X1.ownsRow (w.heap.size+1) 5 1 (.slice (some ⟨h0,0,none⟩) 7 cap0) 7 [.int .u8 35,.int .u8 (sx (r / 16):Nat),.int .u8 (sx (r % 16):Nat),.int .u8 (sx (g / 16):Nat),.int .u8 (sx (g % 16):Nat),.int .u8 (sx (b / 16):Nat),.int .u8 (sx (b % 16):Nat)]∧X0.heap.size=w.heap.size+1):=⟨A,L,Z1,hown,sz⟩
 clear HW
 have HW:=HW'
 clear HW'
 obtain ⟨d0,d1,d2,d3⟩:=cb
 clear A L Z R sz zs hown hgrow c1 q1 q2 hbl Z1
 refine hK _ _ ?_
 clear hK K
 refine wpAny_one 21 (by kernel_rfl) rfl ?_
 intro K hK
 go_simp
 refine hK _ _ ?_
 clear hK K
 refine wpAny_done (by kernel_rfl) ?_ _
 go_wp2_with fail
 clear d0 d1 d2 d3
 refine R3.wp_region_lit 7 1 2 (fun _ b=>.slice (some ⟨b,0,none⟩) 2 2) (fun _=>.cells #[.int .u8 (sx (a / 16):Nat),.int .u8 (sx (a % 16):Nat)] 5) [67] (by kernel_rfl) (by kernel_rfl) rfl ?_ rfl ?_
 ·intro k hk
  have hc:k=0:=by omega
  subst hc;rfl
 apply Exists.intro
 refine ⟨fun bs ne=>?_,?_,?_⟩
 ·obtain ⟨A,L,Z,_⟩:=HW.out
  have d0:=fun t:Gb X1 bs=>(A.below (Z.trans (t.below.mono Z.size))).1
  have d1:=fun t:Gb X1 bs=>(A.below (Z.trans (t.below.mono Z.size))).2.1
  have d2:=fun t:Gb X1 bs=>(A.below (Z.trans (t.below.mono Z.size))).2.2.1
  have d3:=fun t:Gb X1 bs=>(A.below (Z.trans (t.below.mono Z.size))).2.2.2
  clear A L Z
  simp only [List.take_succ_cons,List.take_zero]
  repeat (go_big_quiet_step (first
   | (go_at_call 135;exact gb_same (hL.out _ _ (by assumption)))
   | (go_at_call 136;exact gb_same (hH.out _ _ (by assumption)))))
  exact wpQuiet_nil rfl
 ·intro i h1 h2
  have hc:i=7:=by omega
  subst hc
  exact ⟨_,rfl,rfl,fun _=>by kernel_rfl⟩
 intro bl wr hbl hlo _
 obtain ⟨q1,q2⟩:=hlo 7 (by omega) (by omega)
 simp only [R3.layL]
 generalize bl 7=g0 at *
 clear hlo
 obtain ⟨c1,_,_⟩:=heap_cells q2
 refine wpAny_one 8 (by kernel_rfl) rfl ?_
 intro K hK
 obtain ⟨A,L,Z,R,sz⟩:=HW.out
 replace R:=own_below R hbl
 replace Z:=Z.trans (hbl.mono Z.size)
 have zs:w.heap.size+1≤wr.heap.size:=by rw [← sz];exact Z.size
 refine step_append_lies wr (by rfl) _ _ 77 (by rfl) (w.heap.size+1) 5 i0 (.int .u8 0) 1 1 Tryz.underlying77 hi hz0 hz1 hz2 rfl (by decide) (.slice (some ⟨h0,0,none⟩) 7 cap0) 7 [.int .u8 35,.int .u8 (sx (r / 16):Nat),.int .u8 (sx (r % 16):Nat),.int .u8 (sx (g / 16):Nat),.int .u8 (sx (g % 16):Nat),.int .u8 (sx (b / 16):Nat),.int .u8 (sx (b % 16):Nat)] (by rfl) R ⟨g0,0,none⟩ 2 2 [.int .u8 (sx (a / 16):Nat),.int .u8 (sx (a % 16):Nat)] (by rfl) rfl ?_ ?_ (by decide) (by decide) (by decide) zs wr.heap.size rfl ?_
 ·intro j u hj
  rw [add_at g0 j,c1 j]
  simpa using hj
 ·intro u hu
  simp at hu
  rcases hu with rfl | rfl <;> rfl
 intro h1 cap1 X2 hown hgrow _ _
 have L1:Below w.heap.size w X2:=by
  have h2:=Z.grown hgrow Z.size (fun b hb=>by have:=(R.lt b hb).1;omega)
  exact L.trans (h2.mono L.size)
 have hcv:=conv_own [35,bt (r / 16),bt (r % 16),bt (g / 16),bt (g % 16),bt (b / 16),bt (b % 16),bt (a / 16),bt (a % 16)] hown rfl (fun j hj=>by
   simp only [List.length_cons,List.length_nil] at hj
   obtain ⟨e1,e2,e3,e4,e5,e6,e7,e8⟩:=HB.out
   have hc:j=0∨j=1∨j=2∨j=3∨j=4∨j=5∨j=6∨j=7∨j=8:=by omega
   rcases hc with rfl | rfl | rfl | rfl | rfl | rfl | rfl | rfl | rfl
   ·rfl
   ·simp [e1]
   ·simp [e2]
   ·simp [e3]
   ·simp [e4]
   ·simp [e5]
   ·simp [e6]
   ·simp [e7]
   ·simp [e8])
 have HL:Hid (Below w.heap.size w X2):=L1
 clear A L Z R sz zs hown hgrow c1 q1 q2 hbl L1
 refine hK _ _ ?_
 clear hK K
 refine wpAny_one 9 (by kernel_rfl) rfl ?_
 intro K hK
 go_simp
 refine hK _ _ ?_
 clear hK K
 refine wpAny_done (by kernel_rfl) ?_ _
 go_wp2
 go_ret
 exact ⟨rfl,HL.out⟩
theorem text_any (c:Co) (w:World) (hc:c.ok) :
  Calls Tryz.prog 100 #[(Value.agg #[.int .u8 c.r,.int .u8 c.g,.int .u8 c.b,.int .u8 c.a])] w fun e w'=>e = .returned (.string (txt c))∧Below w.heap.size w w':=by
 obtain ⟨⟨r1,r2⟩,⟨g1,g2⟩,⟨b1,b2⟩,⟨a1,a2⟩⟩:=hc
 obtain ⟨r,g,b,a⟩:=c
 simp only at r1 r2 g1 g2 b1 b2 a1 a2
 obtain ⟨r,rfl⟩:=Int.eq_ofNat_of_zero_le r1
 obtain ⟨g,rfl⟩:=Int.eq_ofNat_of_zero_le g1
 obtain ⟨b,rfl⟩:=Int.eq_ofNat_of_zero_le b1
 obtain ⟨a,rfl⟩:=Int.eq_ofNat_of_zero_le a1
 unfold txt txtL
 simp only [Int.toNat_natCast]
 by_cases h:a=255
 ·subst h
  by_cases ht:tw r=true∧tw g=true∧tw b=true
  ·rw [if_pos ⟨rfl,ht⟩]
   exact text_short r g b w (by omega) (by omega) (by omega) ht.1 ht.2.1 ht.2.2
  ·rw [if_neg (fun h=>ht h.2),if_pos rfl]
   refine text_six r g b w (by omega) (by omega) (by omega) ?_
   cases e1:tw r
   ·exact .inl rfl
   ·cases e2:tw g
    ·exact .inr (.inl ⟨rfl,rfl⟩)
    ·cases e3:tw b
     ·exact .inr (.inr ⟨rfl,rfl,rfl⟩)
     ·exact absurd ⟨e1,e2,e3⟩ ht
 ·rw [if_neg (fun h'=>h h'.1),if_neg h]
  exact text_eight r g b a w (by omega) (by omega) (by omega) (by omega) (by rw [beq_eq_false_iff_ne];omega)
end Go.Proofs.YtapachlhdgehjaaGreatDoor

/- Contracts of package vector: appendNumber, formOf, appendLine. -/
namespace Go.Proofs.YtapachlhdgehjaaGreatDoor
open Go.RowKit Go.Shelf Go.Lib
def PwT (lo : Nat) (w : World) : Prop := Lib.TabBelow Tryz.prog lo w "internal/strconv.uint64pow10" .u64 Lib.pow10Tab
theorem PwT.on {lo:Nat} {w w1:World} (h:PwT lo w) (hb:Below lo w w1):PwT lo w1:=Lib.TabBelow.on h hb
theorem PwT.mono {lo lo2:Nat} {w:World} (h:PwT lo w) (hl:lo≤lo2):PwT lo2 w:=fun w' hb=>h w' (hb.mono hl)
set_option maxHeartbeats 1000000 in
set_option maxRecDepth 100000 in
theorem num_any (lo:Nat) (v:Value) (xs:List UInt8) (i:Int) (w:World) (h:OwY lo w v xs) (hlo:lo≤w.heap.size) (hl:xs.length+21≤140737488355328) (hi:I64 i) (T:PwT lo w) :
  Calls Tryz.prog 99 #[v,.int .i64 i] w fun e w'=>∃ v',e = .returned v'∧OwY lo w' v' (xs++itoa i)∧KpY lo w w':=by
 have HC:Hid (Calls Tryz.prog 133 #[v,.int .i64 i,.int .i64 10] w fun e w'=>∃ v',e = .returned v'∧OwY lo w' v' (xs++itoa i)∧KpY lo w w'):=by
  refine (Any.strconv_AppendInt_10 Tryz.laysM176 lo xs.length i hi.1 hi.2 v (byteCells xs) w h hlo hl T).mono ?_
  rintro e w' ⟨v',rfl,h1,h2,h3⟩
  refine ⟨v',rfl,?_,⟨h2,h3⟩⟩
  unfold OwY
  rw [byteCells_append,List.length_append]
  exact h1
 have hi0:=hi.1
 have hi1:=hi.2
 clear h hlo hl hi T
 go_enter Tryz.func99,Tryz.ntmps99
 go_wp2_with fail
 refine HC.out.mono ?_
 rintro e w1 ⟨v1,rfl,h1,h2⟩
 have H1:Hid (OwY lo w1 v1 (xs++itoa i)∧KpY lo w w1):=⟨h1,h2⟩
 clear h1 h2 HC
 go_wp2
 go_ret
 exact ⟨_,rfl,H1.out⟩
set_option maxHeartbeats 1000000 in
theorem vform_any (k:Int) (w:World) (h0:0≤k) (h1:k≤255) :
  Calls Tryz.prog 66 #[.int .u8 k] w fun e w'=>e = .returned (.string ⟨(forF k).toArray⟩)∧w'=w:=by
 have hc:k=1∨k=2∨k=3∨k=4∨(¬ k=1∧¬ k=2∧¬ k=3∧¬ k=4):=by omega
 rcases hc with rfl | rfl | rfl | rfl | ⟨n1,n2,n3,n4⟩
 iterate 4
  ·go_enter Tryz.func66,Tryz.ntmps66
   go_wp2
   go_ret
   exact ⟨rfl,rfl⟩
 ·have e:forF k=opeF:=by unfold forF;rw [if_neg n1,if_neg n2,if_neg n3,if_neg n4]
  rw [e]
  go_enter Tryz.func66,Tryz.ntmps66
  go_wp2
  go_ret
  exact ⟨rfl,rfl⟩
structure LiW (lo b:Nat) (w:World) (xs:List UInt8) (form:ByteArray) (s:St) (n:Nat) (u:Value) (wr:World):Prop where
 ow:OwY lo wr u (xs++linF (form.data.toList.take n) s)
 kp:KpY lo w wr
 sz:lo≤wr.heap.size
 bx:Bk wr b (#[.int .u8 s.k,.int .i64 s.r.x,.int .i64 s.r.y,.int .i64 s.r.w,.int .i64 s.r.h,.int .u8 s.c.r,.int .u8 s.c.g,.int .u8 s.c.b,.int .u8 s.c.a,.int .u8 s.b.r,.int .u8 s.b.g,.int .u8 s.b.b,.int .u8 s.b.a,.string s.t,.int .i64 s.n]) 55
theorem itoa_len {i:Int} (h:I64 i):(itoa i).length≤21:=itoa_length_le i h.1 h.2
theorem pce_len (s:St) (h:WfS s) (b:Nat):(pceF s b).length≤30+4 * s.t.size:=by
 obtain ⟨_,⟨h1,h2,h3,h4⟩,_,_,_,h5⟩:=h
 have e1:=itoa_len h1
 have e2:=itoa_len h2
 have e3:=itoa_len h3
 have e4:=itoa_len h4
 have e5:=itoa_len h5
 have e6:=txt_len s.c
 have e7:=txt_len s.b
 have e8:=escL_len s.t.data.toList
 have e9:s.t.data.toList.length=s.t.size:=by simp
 unfold pceF
 repeat' split
 all_goals first | omega | (simp;try omega)
theorem lin_len (s:St) (h:WfS s):∀ l:List UInt8,(linF l s).length≤l.length * (30+4 * s.t.size)
 | []=>by simp [linF]
 | b :: l=>by
  have h1:=lin_len s h l
  have h2:=pce_len s h b.toNat
  rw [linF_cons,List.length_append,List.length_cons,Nat.succ_mul]
  omega
end Go.Proofs.YtapachlhdgehjaaGreatDoor
