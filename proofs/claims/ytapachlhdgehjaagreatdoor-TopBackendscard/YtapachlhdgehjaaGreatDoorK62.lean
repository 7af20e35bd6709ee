/-
  Texts of this claim, one behind the other: what each is about stands ahead of it.
-/
import Derived.Test.YtapachlhdgehjaaGreatDoorK43
import Derived.Test.YtapachlhdgehjaaGreatDoorK33
import Derived.Test.YtapachlhdgehjaaGreatDoorK16
import Derived.LaidHandle
import Derived.LaidLaws
import Derived.Stop.LaidErr
import Derived.ChangeMade
import Derived.RowKitTokens
import Derived.Lay
import Derived.Deep.DeepLaidRun
import Derived.Test.YtapachlhdgehjaaGreatDoorK45
import Derived.Test.YtapachlhdgehjaaGreatDoorK44
import Derived.Test.YtapachlhdgehjaaGreatDoorK28
import Derived.Test.YtapachlhdgehjaaGreatDoorK47
import Derived.Test.YtapachlhdgehjaaGreatDoorK3
import Derived.Test.YtapachlhdgehjaaGreatDoorCards
import Derived.Test.YtapachlhdgehjaaGreatDoorTie
import Derived.ProofKit
import Derived.OpenShut
import Derived.Deep.DeepHandedRow
import Derived.LaidOnce
import Derived.SevenTiedAt
/- A colour that came in, written out; what the listed variables give: the library's numbers, its errors, the type of errors, the tables of runes, the runes of frames. -/
namespace Go.Proofs.YtapachlhdgehjaaGreatDoor
open Go.ChangeShapes Go.WideShapes Go.ChangeAt Go.RowKit Go.Joins Go.Lib
set_option maxRecDepth 100000 in
theorem open_colour {H:Type} {enc:TypeId × Value→H} {W:World} {base b:Nat} {sp:Nat→Bool} {held:Bool} {v:Value} {d:DataW H} {p:List MemPlace}
  (hv:Value.okWide Tryz.prog W .any base 38 v) (h:DataW.Trod enc Tryz.prog W b sp held 38 v d p):∃ c:Co,v=(Value.agg #[.int .u8 c.r,.int .u8 c.g,.int .u8 c.b,.int .u8 c.a])∧c.ok:=by
 obtain ⟨c0,c1,c2,c3,y0,y1,y2,y3,m,rfl,rfl,rfl,h0,h1,h2,h3⟩:=open_agg4 Tryz.underlying38 (by kernel_rfl) cells_c hv h
 obtain ⟨a0,e0,_,w0⟩:=DataW.trod_int Tryz.underlying5 h0
 obtain ⟨a1,e1,_,w1⟩:=DataW.trod_int Tryz.underlying5 h1
 obtain ⟨a2,e2,_,w2⟩:=DataW.trod_int Tryz.underlying5 h2
 obtain ⟨a3,e3,_,w3⟩:=DataW.trod_int Tryz.underlying5 h3
 simp at e0 e1 e2 e3
 subst e0 e1 e2 e3
 have b0:=bounds_u8 w0
 have b1:=bounds_u8 w1
 have b2:=bounds_u8 w2
 have b3:=bounds_u8 w3
 refine ⟨⟨a0,a1,a2,a3⟩,rfl,?_⟩
 unfold Co.ok By
 dsimp only
 omega
def spanData (xs:List (Int × Int)):DataW Unit:=.slice (xs.map fun x=>.agg ([x.1,x.2].map fun z=>.lit (.int .i32 z))) []
theorem marks_eq:Rows.laid_casement_runes_marks (H:=Unit)=spanData marksL:=by kernel_rfl
theorem wides_eq:Rows.laid_casement_runes_wides (H:=Unit)=spanData widesL:=by kernel_rfl
theorem c_span:Tryz.prog.cellsOf 260=2:=by kernel_rfl
theorem c_i32:Tryz.prog.cellsOf 21=1:=by kernel_rfl
theorem spans_of_reads {name:String} {g:Nat} (hn:Tryz.prog.globalNamed name=some g) (hy:(Tryz.prog.globals[g]?).map (·.type)=some 258) {xs:List (Int × Int)} (h0:xs≠[]) {w:World} (h:VarReads Tryz.prog w name (spanData xs)):Spans w g xs:=by
 obtain ⟨g',t,cs,fuel,p,hg,hty,hvar,hd⟩:=h
 obtain rfl:=Option.some.inj (hn.symm.trans hg)
 obtain rfl:=Option.some.inj (hy.symm.trans hty)
 rcases DataW.trod_slice Tryz.underlying258 hd with ⟨_,hx⟩ | ⟨a,len,cap,el,rs,m,rfl,hcs,hx,_,hlc,_,hel,helem,_,_⟩
 ·cases hx
 ·have eE:el.map (·.1)=xs.map fun x=>(.agg ([x.1,x.2].map fun z=>.lit (.int .i32 z)):DataW Unit):=by
   have:=congrArg Prod.fst hx
   simp only [spanData,DataW.slice.injEq] at this
   exact this.1.symm
  have hlen:len=xs.length:=by
   have:=congrArg List.length eE
   simp at this
   omega
  subst hlen
  have hrange:∀ i (hi:i<xs.length),∀ j,j<2→w.cell? ((a.add (i * 2)).add j)=([.int .i32 xs[i].1,.int .i32 xs[i].2]:List Value)[j]? := by
   intro i hi j hj
   have h1:=helem i hi
   rw [c_span] at h1
   obtain ⟨b,hb⟩:∃ b,el[i]? = some b:=⟨el[i]'(by omega),List.getElem?_eq_getElem (by omega)⟩
   rw [hb] at h1
   obtain ⟨ce,hce,hte⟩:=Option.bind_eq_some_iff.1 h1
   have hb1:b.1 = .agg ([xs[i].1,xs[i].2].map fun z=>.lit (.int .i32 z)):=by
    have:=congrArg (·[i]?) eE
    simpa [hb,hi] using this
   have hcs2:=ints_of_struct (p:=b.2) Tryz.underlying260 (fun q f hq=>by
    match q,hq with
    | 0,hq=>simp at hq;subst hq;exact ⟨Tryz.underlying21,rfl,c_i32⟩
    | 1,hq=>simp at hq;subst hq;exact ⟨Tryz.underlying21,rfl,c_i32⟩
    | q+2,hq=>simp at hq) (by rw [c_span];rfl) (by rw [← hb1];exact hte)
   obtain ⟨_,_,hcc⟩:=World.cells?_some hce
   rw [hcc j hj,hcs2]
   rfl
  obtain ⟨R,o,sR⟩:=a
  have hpos:0<xs.length:=by
   cases xs with
   | nil=>exact absurd rfl h0
   | cons _ _=>simp
  obtain rfl:sR=none:=by
   have h00:=hrange 0 hpos 0 (by omega)
   have:(Addr.add (Addr.add ⟨R,o,sR⟩ (0 * 2)) 0)=⟨R,o,sR⟩:=by simp [Addr.add]
   rw [this] at h00
   exact cell_spot h00
  refine ⟨R,o,cap,?_,hlc,fun i hi=>?_⟩
  ·rw [World.var?_cell hg hvar 0,← Array.getElem?_toList,hcs]
   rfl
  ·have k0:=hrange i hi 0 (by omega)
   have k1:=hrange i hi 1 (by omega)
   rw [Addr.add_lit,Addr.add_lit] at k0 k1
   exact ⟨by simpa using k0,by simpa using k1⟩
set_option maxRecDepth 100000 in
theorem c_box4:Tryz.prog.cellsOf 207=4:=by kernel_rfl
set_option maxRecDepth 100000 in
theorem box_of {W : World} (h : VarReads Tryz.prog W "casement/cells.box" (Rows.laid_casement_cells_box (H := Unit))) : ∀ i j : Nat, i < 4 → j < 4 → W.cell? ⟨1, i * 4 + j, none⟩ = some (.int .i32 (([0, 9474, 9474, 9474, 9472, 9484, 9488, 9474, 9472, 9492, 9496, 9474, 9472, 9472, 9472, 9633] : List Int).getD (i * 4 + j) 0)) := by
 obtain ⟨g',t,cs,fuel,p,hg,hty,hvar,hd⟩:=h
 obtain rfl := Option.some.inj ((show Tryz.prog.globalNamed "casement/cells.box" = some 1 by kernel_rfl).symm.trans hg)
 obtain rfl:=Option.some.inj ((show (Tryz.prog.globals[1]?).map (·.type)=some 208 by kernel_rfl).symm.trans hty)
 obtain ⟨xs,m,rfl,hx,hl,hn,hf⟩:=DataW.trod_array Tryz.underlying208 hd
 match xs,hn with
 | [x0,x1,x2,x3],_ =>
  obtain ⟨x0,p0⟩:=x0
  obtain ⟨x1,p1⟩:=x1
  obtain ⟨x2,p2⟩:=x2
  obtain ⟨x3,p3⟩:=x3
  have hx1:=congrArg Prod.fst hx
  simp only [Rows.laid_casement_cells_box,List.map_cons,List.map_nil,DataW.agg.injEq,List.cons.injEq,and_true] at hx1
  obtain ⟨rfl,rfl,rfl,rfl⟩:=hx1
  have f0:=hf 0 (by omega)
  have f1:=hf 1 (by omega)
  have f2:=hf 2 (by omega)
  have f3:=hf 3 (by omega)
  rw [c_box4] at f0 f1 f2 f3
  have k0:=cells_of_tab (zs:=[0,9474,9474,9474]) Tryz.underlying207 Tryz.underlying21 c_i32 c_box4 f0
  have k1:=cells_of_tab (zs:=[9472,9484,9488,9474]) Tryz.underlying207 Tryz.underlying21 c_i32 c_box4 f1
  have k2:=cells_of_tab (zs:=[9472,9492,9496,9474]) Tryz.underlying207 Tryz.underlying21 c_i32 c_box4 f2
  have k3:=cells_of_tab (zs:=[9472,9472,9472,9633]) Tryz.underlying207 Tryz.underlying21 c_i32 c_box4 f3
  intro i j hi hj
  rw [World.var?_cell hg hvar (i * 4+j),← Array.getElem?_toList]
  have e:cs.toList[i * 4+j]? = ((cs.toList.drop (i * 4)).take 4)[j]? := by simp [hj,List.getElem?_drop]
  rw [e]
  rcases (show i=0∨i=1∨i=2∨i=3 by omega) with rfl | rfl | rfl | rfl
  ·rw [k0]
   rcases (show j=0∨j=1∨j=2∨j=3 by omega) with rfl | rfl | rfl | rfl <;> rfl
  ·rw [k1]
   rcases (show j=0∨j=1∨j=2∨j=3 by omega) with rfl | rfl | rfl | rfl <;> rfl
  ·rw [k2]
   rcases (show j=0∨j=1∨j=2∨j=3 by omega) with rfl | rfl | rfl | rfl <;> rfl
  ·rw [k3]
   rcases (show j=0∨j=1∨j=2∨j=3 by omega) with rfl | rfl | rfl | rfl <;> rfl
theorem cut_rt : (Tryz.prog.cutTypes.find? (·.1 == "internal/reflectlite.rtype")).map (·.2) = some 225 := by kernel_rfl
theorem one_row:((List.range 324).filter fun t=>Tryz.prog.rowNamed t [101,114,114,111,114])=[80]:=by kernel_rfl
theorem n_types:Tryz.prog.types.size=324:=by kernel_rfl
theorem et_name : Tryz.prog.globalNamed "errors.errorType" = some 0 := by kernel_rfl
theorem et_hand:typeHandle Tryz.prog 80 = .pointer (some ⟨12,80,none⟩):=by kernel_rfl
theorem es_star : "*" ++ "errors.errorString" = "*errors.errorString" := by decide
theorem es_row (u : TypeId) (h : Tryz.prog.typeName? 3 u = some "*errors.errorString") : u = 293 :=
 typeName_ptr_named (nm := "errors.errorString") (by rw [es_star]; kernel_rfl) (by kernel_rfl) (by decide) u (by rw [es_star]; exact h)
theorem es_cells:Tryz.prog.cellsOf 295=1:=by kernel_rfl
theorem s_cells:Tryz.prog.cellsOf 9=1:=by kernel_rfl
theorem er_iface {W:World} {n:String} {g:Nat} {a:Addr} (hg:Tryz.prog.globalNamed n=some g) (h:W.var? Tryz.prog n=some #[.iface 293 (.pointer (some a))]):∃ ev,W.cell? ⟨g,0,none⟩=some ev∧(ev = .nilIface∨∃ te pe,ev = .iface te pe) :=
 ⟨_,by simpa using World.var?_cell hg h 0,.inr ⟨_,_,rfl⟩⟩
set_option maxRecDepth 100000 in
theorem env_of {W:World} (h:laidMetH Tryz.prog Rows.topBackendsRow.laid W) (hsh:W.ShapedOpen Tryz.prog):(EnR W.heap.size W∧EtI W)∧∀ W',Below W.heap.size W W'→TbD W':=by
 obtain ⟨hd, hh⟩ := (show laidMet Tryz.prog [("math/bits.deBruijn32tab", Rows.laid_math_bits_deBruijn32tab), ("math/bits.deBruijn64tab", Rows.laid_math_bits_deBruijn64tab), ("internal/strconv.uint64pow10", Rows.laid_internal_strconv_uint64pow10), ("strconv.ErrRange", Rows.laid_strconv_ErrRange), ("strconv.ErrSyntax", Rows.laid_strconv_ErrSyntax), ("casement/runes.marks", Rows.laid_casement_runes_marks), ("casement/runes.wides", Rows.laid_casement_runes_wides), ("casement/cells.box", Rows.laid_casement_cells_box)] W ∧ handlesMet Tryz.prog [("errors.errorType", Rows.laid_errors_errorType)] W from h)
 refine ⟨⟨?_,?_⟩,?_⟩
 ·have hp:PwI W:=pw_of (.tail _ (.tail _ (.head _))) hd
  obtain ⟨a1,s1,v1,_,_,_⟩:=laid_sentinel hd.tail.tail.tail (g:=9) (ti:=80) (by kernel_rfl) (by kernel_rfl) Tryz.underlying80 es_row Tryz.underlying293 Tryz.underlying295 rfl rfl Tryz.underlying9 es_cells s_cells
  obtain ⟨a2,s2,v2,_,_,_⟩:=laid_sentinel hd.tail.tail.tail.tail (g:=8) (ti:=80) (by kernel_rfl) (by kernel_rfl) Tryz.underlying80 es_row Tryz.underlying293 Tryz.underlying295 rfl rfl Tryz.underlying9 es_cells s_cells
  have r1:=er_iface (g:=9) (by kernel_rfl) v1
  have r2:=er_iface (g:=8) (by kernel_rfl) v2
  obtain ⟨m,hm⟩:=Tryz.laysM145.s1_3 W hsh
  have lt:∀ {g:Nat} {v:Value},W.cell? ⟨g,0,none⟩=some v→g<W.heap.size:=fun {g v} hc=>by
   rcases Nat.lt_or_ge g W.heap.size with h1 | h1
   ·exact h1
   ·simp [World.cell?,Array.getElem?_eq_none h1] at hc
  intro w' hb
  refine ⟨hp.below hb,?_,?_,m,?_⟩
  ·obtain ⟨ev,hc,hk⟩:=r2
   exact ⟨ev,by rw [hb.cell (p:=⟨8,0,none⟩) (lt hc)];exact hc,hk⟩
  ·obtain ⟨ev,hc,hk⟩:=r1
   exact ⟨ev,by rw [hb.cell (p:=⟨9,0,none⟩) (lt hc)];exact hc,hk⟩
  ·rw [hb.cell (p:=⟨6,0,none⟩) (lt hm)];exact hm
 ·obtain ⟨name,u,ty,e1,e2,e3,e4,e5⟩:=hh _ (List.mem_singleton.2 rfl)
  have en:name=[101,114,114,111,114]:=(Option.some.inj e1).symm
  subst en
  obtain rfl:=Option.some.inj (cut_rt.symm.trans e2)
  have hm:ty∈(List.range 324).filter fun t=>Tryz.prog.rowNamed t [101,114,114,111,114]:=List.mem_filter.2 ⟨List.mem_range.2 (by rw [← n_types];exact e3),e4⟩
  rw [one_row] at hm
  obtain rfl:=List.mem_singleton.1 hm
  rw [et_hand] at e5
  unfold EtI
  simpa using World.var?_cell et_name e5 0
 ·have r3 : VarReads Tryz.prog W "casement/runes.marks" (spanData marksL) := marks_eq ▸ Lib.laidMet.reads hd (.tail _ (.tail _ (.tail _ (.tail _ (.tail _ (.head _))))))
  have r4 : VarReads Tryz.prog W "casement/runes.wides" (spanData widesL) := wides_eq ▸ Lib.laidMet.reads hd (.tail _ (.tail _ (.tail _ (.tail _ (.tail _ (.tail _ (.head _)))))))
  have r5 : VarReads Tryz.prog W "casement/cells.box" (Rows.laid_casement_cells_box (H := Unit)) := Lib.laidMet.reads hd (.tail _ (.tail _ (.tail _ (.tail _ (.tail _ (.tail _ (.tail _ (.head _))))))))
  have T:Tabs W:=⟨spans_of_reads (by kernel_rfl) (by kernel_rfl) (by decide) r3,spans_of_reads (by kernel_rfl) (by kernel_rfl) (by decide) r4⟩
  have hbx:=box_of r5
  obtain ⟨m,hm⟩:=Tryz.laysM145.s1_3 W hsh
  have lt:∀ {g o:Nat} {v:Value},W.cell? ⟨g,o,none⟩=some v→g<W.heap.size:=fun {g o v} hc=>by
   rcases Nat.lt_or_ge g W.heap.size with h1 | h1
   ·exact h1
   ·simp [World.cell?,Array.getElem?_eq_none h1] at hc
  intro W' hb
  refine ⟨T.below hb,⟨m,?_⟩,fun i j hi hj=>?_⟩
  ·rw [hb.cell (p:=⟨6,0,none⟩) (lt hm)];exact hm
  ·rw [hb.cell (p:=⟨1,i * 4+j,none⟩) (lt (hbx i j hi hj))];exact hbx i j hi hj
noncomputable def laidV (os:Os):World :=
 let w0 := World.laidAll Tryz.prog os [("math/bits.deBruijn32tab", Rows.laid_math_bits_deBruijn32tab), ("math/bits.deBruijn64tab", Rows.laid_math_bits_deBruijn64tab), ("internal/strconv.uint64pow10", Rows.laid_internal_strconv_uint64pow10), ("strconv.ErrRange", Rows.laid_strconv_ErrRange), ("strconv.ErrSyntax", Rows.laid_strconv_ErrSyntax), ("casement/runes.marks", Rows.laid_casement_runes_marks), ("casement/runes.wides", Rows.laid_casement_runes_wides), ("casement/cells.box", Rows.laid_casement_cells_box)]
 { w0 with heap:=w0.heap.modify 0 fun
   | .cells _ t frozen=>.cells #[.iface 225 (.agg #[.pointer (some ⟨12,80,none⟩)])] t frozen
   | o=>o }
set_option maxRecDepth 100000 in
theorem laidV_os (os:Os):(laidV os).os=os:=by
 unfold laidV
 exact World.laidAll_os Tryz.prog os _
set_option maxRecDepth 100000 in
theorem laidV_met (os:Os) (args:Array Value):laidMetH Tryz.prog Rows.topBackendsRow.laid ((laidV os).forCall (fun _ _=>0) ⟨#[],args,[]⟩).memory :=
 laidMetH_of_parts (laidMet_of_run3 8 (by kernel_rfl) (by kernel_rfl) (by kernel_rfl)) (by kernel_rfl)
end Go.Proofs.YtapachlhdgehjaaGreatDoor

/- The statement TopBackends, walked. -/
namespace Go.Proofs.YtapachlhdgehjaaGreatDoor
open Go.RowKit
def tN:ByteArray:=⟨#[60,115,104,97,112,101,115,32,119,61,34,49,34,32,104,61,34,49,34,62,10,60,47,115,104,97,112,101,115,62,10]⟩
theorem tN_text:(⟨(texT [] 1 1).toArray⟩:ByteArray)=tN:=by
 have:texT [] 1 1=tN.data.toList:=by decide +kernel
 rw [this]
theorem tN_err:texE [] 1 1=0:=by decide +kernel
theorem lss_none (w:World):LsS w (.slice none 0 0) []:=⟨none,0,rfl,Nat.le_refl _,fun h=>by simp at h⟩
theorem wfs_none:Wfs []:=fun s hs=>by cases hs
theorem tex_three {l:List St} {zw zh:Int} (h:chkS l=0) (hz:sizB zw zh=true) (he:texE l zw zh≠0):texE l zw zh=3:=by
 unfold texE at he ⊢
 rw [if_neg (by rw [h];decide),hz,if_neg (by decide)] at he ⊢
 split at he
 ·next h1=>rw [if_pos h1]
 ·exact absurd rfl he
set_option maxRecDepth 20000 in
set_option maxHeartbeats 8000000 in
theorem tback_walk (FR:LFrm) (l:List St) (vl:Value) (zw zh:Int) (c:Co) (w:World) (hv:LsS w vl l) (hw:Wfs l) (i1:I64 zw) (i2:I64 zh) (hc:c.ok) (hE:EnR w.heap.size w∧EtI w) (HT:∀ W,Below w.heap.size w W→TbD W) :
  Calls Tryz.prog 5 #[vl,.agg #[.int .i64 zw,.int .i64 zh],(Value.agg #[.int .u8 c.r,.int .u8 c.g,.int .u8 c.b,.int .u8 c.a])] w fun e w'=>e = .returned (.bool true)∧Below w.heap.size w w':=by
 obtain ⟨oa,cap,rfl,hcap,_⟩:=id hv
 obtain ⟨n,hn⟩:∃ n,n=l.length:=⟨_,rfl⟩
 obtain ⟨K,hK⟩:∃ K,K=tN:=⟨_,rfl⟩
 have HK:Hid (∀ W,Below w.heap.size w W→Calls Tryz.prog 12 #[.slice none 0 0,.agg #[.int .i64 1,.int .i64 1]] W fun e w'=>e = .returned (.tuple #[.string K,.int .i64 0])∧Below W.heap.size W w'):=fun W h=>by
  have q:=vtext_any [] _ 1 1 W (lss_none W) wfs_none ⟨by decide,by decide⟩ ⟨by decide,by decide⟩ (hE.1.on h).here.pw
  rw [tN_text,tN_err] at q
  rw [hK]
  exact q
 obtain ⟨T,hT⟩:∃ T:ByteArray,T=⟨(texT l zw zh).toArray⟩:=⟨_,rfl⟩
 obtain ⟨E,hEe⟩:∃ E,E=texE l zw zh:=⟨_,rfl⟩
 obtain ⟨ck,hck⟩:∃ ck,ck=chkS l:=⟨_,rfl⟩
 have HCk:Hid (∀ W,LsS W (.slice oa n cap) l→Calls Tryz.prog 19 #[.slice oa n cap] W fun e w'=>e = .returned (.int .i64 ck)∧Below W.heap.size W w'):=fun W h=>by
  rw [hck]
  exact zcheck_any l _ W h hw.txs
 have HX:Hid (∀ W,VbF w (.slice oa n cap) l zw zh c W→Calls Tryz.prog 12 #[.slice oa n cap,.agg #[.int .i64 zw,.int .i64 zh]] W fun e w'=>e = .returned (.tuple #[.string T,.int .i64 E])∧Below W.heap.size W w'):=fun W h=>by
  rw [hT,hEe]
  exact vtext_any l _ zw zh W h.l hw i1 i2 (hE.1.on h.b).here.pw
 have H0:Hid (∀ W,W=(w.alloc (.cells #[.int .i64 zw,.int .i64 zh] 23)).alloc (.cells #[.int .u8 c.r,.int .u8 c.g,.int .u8 c.b,.int .u8 c.a] 38)→VbF w (.slice oa n cap) l zw zh c W):=fun W hW=>by
  have k1:=Bk.new w #[.int .i64 zw,.int .i64 zh] 23
  have k2:=Bk.new (w.alloc (.cells #[.int .i64 zw,.int .i64 zh] 23)) #[.int .u8 c.r,.int .u8 c.g,.int .u8 c.b,.int .u8 c.a] 38
  simp only [World.size_alloc] at k2
  have bb:Below w.heap.size w W:=by rw [hW];exact ((Below.refl _ w).alloc (Nat.le_refl _) _).alloc (by simp) _
  rw [hW] at bb ⊢
  refine ⟨Bk.alk k1 _,k2,bb,?_⟩
  rw [hn]
  exact hv.below bb
 rw [← hn]
 have hKe:(K==(⟨#[]⟩:ByteArray))=false:=by rw [hK];decide
 have hKs:¬ K=(⟨#[]⟩:ByteArray):=by rw [hK];decide
 have hKl:(K.toList==[])=false:=by rw [hK];decide +kernel
 have hKm:¬ K.toList=[]:=fun h=>by rw [h] at hKl;cases hKl
 by_cases hc0:ck=0
 ·subst hc0
  by_cases k1:zw<1
  ·clear hv hw i1 i2 hc hE HT FR hT hEe hn hK hck hcap HX
   go_enter Tryz.func5,Tryz.ntmps5
   go_wp2_with fail
   obtain ⟨W0,hW0⟩:∃ W0,W0=(w.alloc (.cells #[.int .i64 zw,.int .i64 zh] 23)).alloc (.cells #[.int .u8 c.r,.int .u8 c.g,.int .u8 c.b,.int .u8 c.a] 38):=⟨_,rfl⟩
   have H1:=show Hid _ from H0.out W0 hW0
   rw [← hW0]
   clear hW0 H0
   refine (HK.out _ H1.out.b).mono ?_
   rintro e w1 ⟨rfl,hb⟩
   have H2:=show Hid _ from H1.out.below hb
   clear hb H1 HK
   obtain ⟨z0,z1⟩:=Bk.at2 H2.out.z
   go_wp2_with fail
   refine (HCk.out _ H2.out.l).mono ?_
   rintro e w2 ⟨rfl,hb⟩
   have H3:=show Hid _ from H2.out.below hb
   clear hb H2 HCk z0 z1
   obtain ⟨z0,z1⟩:=Bk.at2 H3.out.z
   have B6:=show Hid _ from H3.out.b
   clear H3
   go_wp2
   go_ret
   exact ⟨rfl,B6.out⟩
  by_cases k2:zh<1
  ·clear hv hw i1 i2 hc hE HT FR hT hEe hn hK hck hcap HX
   go_enter Tryz.func5,Tryz.ntmps5
   go_wp2_with fail
   obtain ⟨W0,hW0⟩:∃ W0,W0=(w.alloc (.cells #[.int .i64 zw,.int .i64 zh] 23)).alloc (.cells #[.int .u8 c.r,.int .u8 c.g,.int .u8 c.b,.int .u8 c.a] 38):=⟨_,rfl⟩
   have H1:=show Hid _ from H0.out W0 hW0
   rw [← hW0]
   clear hW0 H0
   refine (HK.out _ H1.out.b).mono ?_
   rintro e w1 ⟨rfl,hb⟩
   have H2:=show Hid _ from H1.out.below hb
   clear hb H1 HK
   obtain ⟨z0,z1⟩:=Bk.at2 H2.out.z
   go_wp2_with fail
   refine (HCk.out _ H2.out.l).mono ?_
   rintro e w2 ⟨rfl,hb⟩
   have H3:=show Hid _ from H2.out.below hb
   clear hb H2 HCk z0 z1
   obtain ⟨z0,z1⟩:=Bk.at2 H3.out.z
   have B6:=show Hid _ from H3.out.b
   clear H3
   go_wp2
   go_ret
   exact ⟨rfl,B6.out⟩
  by_cases k3:64<zw
  ·clear hv hw i1 i2 hc hE HT FR hT hEe hn hK hck hcap HX
   go_enter Tryz.func5,Tryz.ntmps5
   go_wp2_with fail
   obtain ⟨W0,hW0⟩:∃ W0,W0=(w.alloc (.cells #[.int .i64 zw,.int .i64 zh] 23)).alloc (.cells #[.int .u8 c.r,.int .u8 c.g,.int .u8 c.b,.int .u8 c.a] 38):=⟨_,rfl⟩
   have H1:=show Hid _ from H0.out W0 hW0
   rw [← hW0]
   clear hW0 H0
   refine (HK.out _ H1.out.b).mono ?_
   rintro e w1 ⟨rfl,hb⟩
   have H2:=show Hid _ from H1.out.below hb
   clear hb H1 HK
   obtain ⟨z0,z1⟩:=Bk.at2 H2.out.z
   go_wp2_with fail
   refine (HCk.out _ H2.out.l).mono ?_
   rintro e w2 ⟨rfl,hb⟩
   have H3:=show Hid _ from H2.out.below hb
   clear hb H2 HCk z0 z1
   obtain ⟨z0,z1⟩:=Bk.at2 H3.out.z
   have B6:=show Hid _ from H3.out.b
   clear H3
   go_wp2
   go_ret
   exact ⟨rfl,B6.out⟩
  by_cases k4:64<zh
  ·clear hv hw i1 i2 hc hE HT FR hT hEe hn hK hck hcap HX
   go_enter Tryz.func5,Tryz.ntmps5
   go_wp2_with fail
   obtain ⟨W0,hW0⟩:∃ W0,W0=(w.alloc (.cells #[.int .i64 zw,.int .i64 zh] 23)).alloc (.cells #[.int .u8 c.r,.int .u8 c.g,.int .u8 c.b,.int .u8 c.a] 38):=⟨_,rfl⟩
   have H1:=show Hid _ from H0.out W0 hW0
   rw [← hW0]
   clear hW0 H0
   refine (HK.out _ H1.out.b).mono ?_
   rintro e w1 ⟨rfl,hb⟩
   have H2:=show Hid _ from H1.out.below hb
   clear hb H1 HK
   obtain ⟨z0,z1⟩:=Bk.at2 H2.out.z
   go_wp2_with fail
   refine (HCk.out _ H2.out.l).mono ?_
   rintro e w2 ⟨rfl,hb⟩
   have H3:=show Hid _ from H2.out.below hb
   clear hb H2 HCk z0 z1
   obtain ⟨z0,z1⟩:=Bk.at2 H3.out.z
   have B6:=show Hid _ from H3.out.b
   clear H3
   go_wp2
   go_ret
   exact ⟨rfl,B6.out⟩
  have hsz:sizB zw zh=true:=by
   unfold sizB
   simp only [Bool.and_eq_true,decide_eq_true_eq]
   omega
  by_cases he:E=0
  ·obtain ⟨r1,r2,r3,r4,r5⟩:=rd_text (hEe ▸ he) hw
   obtain ⟨t1,t2,t3,t4⟩:=tex_zero (hEe ▸ he)
   rw [← hT] at r1 r2 r3 r4 r5
   subst he
   have HR:Hid (∀ W,Below w.heap.size w W→Calls Tryz.prog 13 #[.string T] W fun e w'=>∃ u,e = .returned (.tuple #[u,.agg #[.int .i64 zw,.int .i64 zh],.int .i64 0,.int .i64 0])∧OwS W.heap.size w' u l∧Below W.heap.size W w'):=fun W hb=>by
    have q:=vread_any T W ((hE.1.on hb).mono hb.size) (hE.2.below hb)
    unfold RdQ at q
    rw [r1,r2,r3,r4,r5] at q
    exact q
   have HSm:Hid (∀ W u,LsS W (.slice oa n cap) l→LsS W u l→Calls Tryz.prog 20 #[.slice oa n cap,u] W fun e w'=>e = .returned (.bool true)∧Below W.heap.size W w'):=fun W u h h'=>by
    have q:=lsame_any l l _ u W h h' (by have:=(chk_small t1).2;omega)
    rw [samZ_self] at q
    exact q
   obtain ⟨a,rfl⟩:∃ a:Nat,zw=a:=⟨zw.toNat,by omega⟩
   obtain ⟨b,rfl⟩:∃ b:Nat,zh=b:=⟨zh.toNat,by omega⟩
   have hmb:=mul_bd (show (0:Int)≤a by omega) (show (a:Int)≤16384 by omega) (show (0:Int)≤b by omega) (show (b:Int)≤16384 by omega)
   have hab:(a:Int) * b≤4096:=by
    rw [← Int.natCast_mul]
    have h1:a * b≤64 * 64:=Nat.mul_le_mul (by omega) (by omega)
    omega
   obtain ⟨N,hN⟩:∃ N:Nat,(N:Int)=(a:Int) * b:=⟨((a:Int) * b).toNat,by omega⟩
   have hs:szB a b=true:=szB_iff.2 ⟨by omega,by omega,by omega,by omega,by omega⟩
   have HSc:Hid (∀ W,Below w.heap.size w W→Calls Tryz.prog 16 #[.string T,(Value.agg #[.int .u8 c.r,.int .u8 c.g,.int .u8 c.b,.int .u8 c.a])] W fun e w'=>∃ u,e = .returned (.tuple #[.agg #[.int .i64 (a:Nat),.int .i64 (b:Nat),u],.int .i64 0,.int .i64 0])∧OwC W.heap.size w' u (drwB a c N l)∧Below W.heap.size W w'):=fun W h=>vscreen_any FR T l a b N c W ⟨(hE.1.on h).mono h.size,hE.2.below h⟩ (fun W' h'=>HT W' (h.trans (h'.mono h.size))) r1 r2 r3 r4 r5 hs hN hw t1 hc
   have HBl:Hid (∀ W,Calls Tryz.prog 17 #[.agg #[.int .i64 (a:Nat),.int .i64 (b:Nat)],(Value.agg #[.int .u8 c.r,.int .u8 c.g,.int .u8 c.b,.int .u8 c.a])] W fun e w'=>∃ g,e = .returned (.tuple #[.agg #[.int .i64 (a:Nat),.int .i64 (b:Nat),.slice (some ⟨g,0,none⟩) N N],.int .i64 0])∧W.heap.size≤g∧Bk w' g (flatC (blkC c N)).toArray 65∧Below W.heap.size W w'):=fun W=>blank_ok a b c N W hs hN
   have HDr:Hid (∀ W g,Below w.heap.size w W→Bk W g (flatC (blkC c N)).toArray 65→LsS W (.slice oa n cap) l→Calls Tryz.prog 8 #[.agg #[.int .i64 (a:Nat),.int .i64 (b:Nat),.slice (some ⟨g,0,none⟩) N N],.slice oa n cap] W fun e w'=>∃ u,e = .returned (.tuple #[.agg #[.int .i64 (a:Nat),.int .i64 (b:Nat),u],.int .i64 0])∧Hid (OwC W.heap.size w' u (drwB a c N l)∧Below W.heap.size W w')):=fun W g hb h h'=>drawB_any FR a b N g c l _ W h hs hN h' hw t1 hc (fun W' hb'=>HT W' (hb.trans (hb'.mono hb.size)))
   have hdl:(drwB a c N l).length<1000000:=by
    unfold drwB
    rw [drwS_len,blk_len]
    omega
   have HSs:Hid (∀ W u v,LsC W u (drwB a c N l)→LsC W v (drwB a c N l)→Calls Tryz.prog 10 #[.agg #[.int .i64 (a:Nat),.int .i64 (b:Nat),u],.agg #[.int .i64 (a:Nat),.int .i64 (b:Nat),v]] W fun e w'=>e = .returned (.bool true)∧Below W.heap.size W w'):=fun W u v h h'=>scr15_any a b _ u v W h h' hdl
   clear hv hw i1 i2 hc hE HT FR hT hEe hn hK hck hcap r1 r2 r3 r4 r5 t1 t2 t3 t4 hmb hs hN hdl hab hsz
   go_enter Tryz.func5,Tryz.ntmps5
   go_wp2_with fail
   obtain ⟨W0,hW0⟩:∃ W0,W0=(w.alloc (.cells #[.int .i64 (a:Int),.int .i64 (b:Int)] 23)).alloc (.cells #[.int .u8 c.r,.int .u8 c.g,.int .u8 c.b,.int .u8 c.a] 38):=⟨_,rfl⟩
   have H1:=show Hid _ from H0.out W0 hW0
   rw [← hW0]
   clear hW0 H0
   refine (HK.out _ H1.out.b).mono ?_
   rintro e w1 ⟨rfl,hb⟩
   have H2:=show Hid _ from H1.out.below hb
   clear hb H1 HK
   obtain ⟨z0,z1⟩:=Bk.at2 H2.out.z
   go_wp2_with fail
   refine (HCk.out _ H2.out.l).mono ?_
   rintro e w2 ⟨rfl,hb⟩
   have H3:=show Hid _ from H2.out.below hb
   clear hb H2 HCk z0 z1
   obtain ⟨z0,z1⟩:=Bk.at2 H3.out.z
   go_wp2_with fail
   refine (HX.out _ H3.out).mono ?_
   rintro e w3 ⟨rfl,hb⟩
   have H3b:=show Hid _ from H3.out.below hb
   clear hb H3 HX z0 z1
   go_wp2_with fail
   refine (HR.out _ H3b.out.b).mono ?_
   rintro e w4 ⟨u,rfl,hu,hb⟩
   have H4:=show Hid (VbF w (.slice oa n cap) l a b c (w4.alloc (.cells #[.int .i64 (a:Int),.int .i64 (b:Int)] 23))∧LsS (w4.alloc (.cells #[.int .i64 (a:Int),.int .i64 (b:Int)] 23)) u l) from ⟨(H3b.out.below hb).alk _,OwS.lss (row_below hu ((Below.refl _ w4).alloc (Nat.le_refl _) _):OwS w3.heap.size _ u l)⟩
   clear hb hu H3b HR
   obtain ⟨z0,z1⟩:=Bk.at2 H4.out.1.z
   go_wp2_with fail
   refine (HSm.out _ _ H4.out.1.l H4.out.2).mono ?_
   rintro e w5 ⟨rfl,hb⟩
   have H6:=show Hid _ from H4.out.1.below hb
   clear hb H4 HSm z0 z1
   obtain ⟨z0,z1⟩:=Bk.at2 H6.out.z
   have m0:=Bk.cell H6.out.c 0
   have m1:=Bk.cell H6.out.c 1
   have m2:=Bk.cell H6.out.c 2
   have m3:=Bk.cell H6.out.c 3
   simp only [List.getElem?_toArray,List.getElem?_cons_zero,List.getElem?_cons_succ] at m0 m1 m2 m3
   go_wp2_with fail
   refine (HSc.out _ H6.out.b).mono ?_
   rintro e w6 ⟨u6,rfl,hu6,hb⟩
   obtain ⟨o6,c6,rfl,_,_⟩:=row_val hu6
   obtain ⟨N6,hN6⟩:∃ N6,N6=(drwB a c N l).length:=⟨_,rfl⟩
   rw [← hN6] at hu6 ⊢
   obtain ⟨sb,hsb⟩:∃ sb,sb=w6.heap.size:=⟨_,rfl⟩
   obtain ⟨W6,hW6⟩:∃ W6,W6=w6.alloc (.cells #[.int .i64 (a:Nat),.int .i64 (b:Nat),.slice o6 N6 c6] 26):=⟨_,rfl⟩
   have H7:=show Hid (VbF w (.slice oa n cap) l a b c W6∧LsC W6 (.slice o6 N6 c6) (drwB a c N l)∧Bk W6 sb #[.int .i64 (a:Nat),.int .i64 (b:Nat),.slice o6 N6 c6] 26∧N6=(drwB a c N l).length) from ⟨by rw [hW6];exact (H6.out.below hb).alk _,by rw [hW6];exact (OwC.lsc hu6).below ((Below.refl _ w6).alloc (Nat.le_refl _) _),by rw [hW6,hsb];exact Bk.new _ _ _,hN6⟩
   clear hb hu6 H6 HSc z0 z1 m0 m1 m2 m3 hN6
   obtain ⟨z0,z1⟩:=Bk.at2 H7.out.1.z
   have m0:=Bk.cell H7.out.1.c 0
   have m1:=Bk.cell H7.out.1.c 1
   have m2:=Bk.cell H7.out.1.c 2
   have m3:=Bk.cell H7.out.1.c 3
   simp only [List.getElem?_toArray,List.getElem?_cons_zero,List.getElem?_cons_succ] at m0 m1 m2 m3
   rw [hW6] at z0 z1 m0 m1 m2 m3
   go_wp2_with fail
   rw [← hW6,← hsb]
   clear hW6 hsb z0 z1 m0 m1 m2 m3
   refine (HBl.out _).mono ?_
   rintro e w7 ⟨g,rfl,_,hg,hb⟩
   have H8:=show Hid (∀ o,VbF w (.slice oa n cap) l a b c (w7.alloc o)∧LsC (w7.alloc o) (.slice o6 N6 c6) (drwB a c N l)∧Bk (w7.alloc o) sb #[.int .i64 (a:Nat),.int .i64 (b:Nat),.slice o6 N6 c6] 26∧Bk (w7.alloc o) g (flatC (blkC c N)).toArray 65∧N6=(drwB a c N l).length) from fun o=>⟨(H7.out.1.below hb).alk _,(H7.out.2.1.below hb).below ((Below.refl _ w7).alloc (Nat.le_refl _) _),Bk.alk (H7.out.2.2.1.below hb) _,Bk.alk hg _,H7.out.2.2.2⟩
   clear hb hg H7 HBl
   go_wp2_with fail
   refine (HDr.out _ g (H8.out _).1.b (H8.out _).2.2.2.1 (H8.out _).1.l).mono ?_
   rintro e w8 ⟨u8,rfl,h9⟩
   have h8:=H8.out (.cells #[.int .i64 (a:Nat),.int .i64 (b:Nat),.slice (some ⟨g,0,none⟩) N N] 26)
   obtain ⟨o8,c8,hu8,_,_⟩:=row_val h9.out.1
   rw [← h8.2.2.2.2] at hu8
   subst hu8
   have H9:=show Hid (∀ o,LsC (w8.alloc o) (.slice o6 N6 c6) (drwB a c N l)∧LsC (w8.alloc o) (.slice o8 N6 c8) (drwB a c N l)∧Bk (w8.alloc o) sb #[.int .i64 (a:Nat),.int .i64 (b:Nat),.slice o6 N6 c6] 26∧Below w.heap.size w (w8.alloc o)) from fun o=>⟨(h8.2.1.below h9.out.2).below ((Below.refl _ w8).alloc (Nat.le_refl _) _),(OwC.lsc h9.out.1).below ((Below.refl _ w8).alloc (Nat.le_refl _) _),Bk.alk (h8.2.2.1.below h9.out.2) _,((h8.1.below h9.out.2).alk o).b⟩
   clear h8 h9 H8 HDr
   have k3:=H9.out (.cells #[.int .i64 (a:Nat),.int .i64 (b:Nat),.slice o8 N6 c8] 26)
   have x0:=Bk.cell k3.2.2.1 0
   have x1:=Bk.cell k3.2.2.1 1
   have x2:=Bk.cell k3.2.2.1 2
   simp only [List.getElem?_toArray,List.getElem?_cons_zero,List.getElem?_cons_succ] at x0 x1 x2
   clear k3
   go_wp2_with fail
   refine (HSs.out _ _ _ (H9.out _).1 (H9.out _).2.1).mono ?_
   rintro e w9 ⟨rfl,hb⟩
   have B9:Hid (Below w.heap.size w w9):=(H9.out _).2.2.2.trans (hb.mono (H9.out _).2.2.2.size)
   clear hb H9 HSs x0 x1 x2
   go_wp2
   go_ret
   exact ⟨rfl,B9.out⟩
  ·have hTz:T=⟨#[]⟩:=by
    rw [hT]
    unfold texT
    rw [if_neg (by rw [← hEe];exact he)]
   have hE3:E=3:=by
    rw [hEe]
    exact tex_three hck.symm hsz (by rw [← hEe];exact he)
   subst hTz
   subst hE3
   clear hv hw i1 i2 hc hE HT FR hT hEe hn hK hck hcap hsz he
   go_enter Tryz.func5,Tryz.ntmps5
   go_wp2_with fail
   obtain ⟨W0,hW0⟩:∃ W0,W0=(w.alloc (.cells #[.int .i64 zw,.int .i64 zh] 23)).alloc (.cells #[.int .u8 c.r,.int .u8 c.g,.int .u8 c.b,.int .u8 c.a] 38):=⟨_,rfl⟩
   have H1:=show Hid _ from H0.out W0 hW0
   rw [← hW0]
   clear hW0 H0
   refine (HK.out _ H1.out.b).mono ?_
   rintro e w1 ⟨rfl,hb⟩
   have H2:=show Hid _ from H1.out.below hb
   clear hb H1 HK
   obtain ⟨z0,z1⟩:=Bk.at2 H2.out.z
   go_wp2_with fail
   refine (HCk.out _ H2.out.l).mono ?_
   rintro e w2 ⟨rfl,hb⟩
   have H3:=show Hid _ from H2.out.below hb
   clear hb H2 HCk z0 z1
   obtain ⟨z0,z1⟩:=Bk.at2 H3.out.z
   go_wp2_with fail
   refine (HX.out _ H3.out).mono ?_
   rintro e w3 ⟨rfl,hb⟩
   have B3:=show Hid (Below w.heap.size w w3) from (H3.out.below hb).b
   clear hb H3 HX z0 z1
   go_wp2
   go_ret
   exact ⟨rfl,B3.out⟩
 ·have c0:(ck==0)=false:=by simpa using hc0
  clear hv hw i1 i2 hc hE HT FR hT hEe hn hK hck hcap HX
  go_enter Tryz.func5,Tryz.ntmps5
  go_wp2_with fail
  obtain ⟨W0,hW0⟩:∃ W0,W0=(w.alloc (.cells #[.int .i64 zw,.int .i64 zh] 23)).alloc (.cells #[.int .u8 c.r,.int .u8 c.g,.int .u8 c.b,.int .u8 c.a] 38):=⟨_,rfl⟩
  have H1:=show Hid _ from H0.out W0 hW0
  rw [← hW0]
  clear hW0 H0
  refine (HK.out _ H1.out.b).mono ?_
  rintro e w1 ⟨rfl,hb⟩
  have H2:=show Hid _ from H1.out.below hb
  clear hb H1 HK
  obtain ⟨z0,z1⟩:=Bk.at2 H2.out.z
  go_wp2_with fail
  refine (HCk.out _ H2.out.l).mono ?_
  rintro e w2 ⟨rfl,hb⟩
  have H3:=show Hid _ from H2.out.below hb
  clear hb H2 HCk z0 z1
  obtain ⟨z0,z1⟩:=Bk.at2 H3.out.z
  have B6:=show Hid _ from H3.out.b
  clear H3
  go_wp2
  go_ret
  exact ⟨rfl,B6.out⟩
end Go.Proofs.YtapachlhdgehjaaGreatDoor

/- The statement TopBackends holds: of any strokes, size and colour; no condition. -/
namespace Go.Proofs.YtapachlhdgehjaaGreatDoor
open Go.ChangeShapes Go.WideShapes Go.ChangeAt Go.RowKit
open Go.ChangeMaps (open_string shut_string)
set_option maxRecDepth 100000 in
theorem tback_reads (os:Os) {H:Type} (enc:TypeId × Value→H):∃ places,DataW.whole enc Tryz.prog ((laidV os).forCall (fun _ _=>0) ⟨#[],#[.slice none 0 0,.agg #[.int .i64 0,.int .i64 0],.agg #[.int .u8 0,.int .u8 0,.int .u8 0,.int .u8 0]],[]⟩).memory Tryz.f5.params.toList Rows.topBackendsSpec.vars false #[Value.slice none 0 0,.agg #[.int .i64 0,.int .i64 0],.agg #[.int .u8 0,.int .u8 0,.int .u8 0,.int .u8 0]].toList 8=some ([.nil,.agg [.lit (.int .i64 0),.lit (.int .i64 0)],.agg [.lit (.int .u8 0),.lit (.int .u8 0),.lit (.int .u8 0),.lit (.int .u8 0)]],[],places) :=
 ⟨[],by kernel_rfl⟩
set_option maxRecDepth 100000 in
theorem tback_lifted (os:Os) (started:os.Started) (H:Type) (enc:TypeId × Value→H) (F:Stop.Interp) :
  ReturnsInHanded {} Tryz.checked os 5 .any ((OpenSpec.ofChange Rows.topBackendsSpec).preRow enc Tryz.prog Tryz.f5 Rows.topBackendsRow.domain false Rows.topBackendsRow.laid) (((OpenSpec.ofChange Rows.topBackendsSpec).at F).post enc Tryz.prog Tryz.f5 false true false false):=by
 obtain ⟨places,hx⟩:=tback_reads os enc
 have hok:Input.okWideB Tryz.prog ((laidV os).forCall (fun _ _=>0) ⟨#[],#[.slice none 0 0,.agg #[.int .i64 0,.int .i64 0],.agg #[.int .u8 0,.int .u8 0,.int .u8 0,.int .u8 0]],[]⟩) 5 ⟨#[],#[.slice none 0 0,.agg #[.int .i64 0,.int .i64 0],.agg #[.int .u8 0,.int .u8 0,.int .u8 0,.int .u8 0]],[]⟩=true:=by kernel_rfl
 have hL:laidMetH Tryz.prog Rows.topBackendsRow.laid ((laidV os).forCall (fun _ _=>0) ⟨#[],#[.slice none 0 0,.agg #[.int .i64 0,.int .i64 0],.agg #[.int .u8 0,.int .u8 0,.int .u8 0,.int .u8 0]],[]⟩).memory:=laidV_met os _
 refine returnsInHanded_of_row (C:=Tryz.checked) (s:=OpenSpec.ofChange Rows.topBackendsSpec) own_w started (by kernel_rfl) Tryz.func5
  ⟨laidV os,fun _ _=>0,⟨#[],#[.slice none 0 0,.agg #[.int .i64 0,.int .i64 0],.agg #[.int .u8 0,.int .u8 0,.int .u8 0,.int .u8 0]],[]⟩,laidV_os os,World.shaped_of_ZipB (by kernel_rfl) (by kernel_rfl),(Input.okWide_of_okWideB (base:=0) hok).1,(Input.okWide_of_okWideB hok).2,
   OpenSpec.preRow_of_cond 8 hx (by kernel_rfl) (fun k hk=>by cases hk) (by kernel_rfl) hL,by
    simp only [Assume.holds]
    exact ⟨by simp,by simp,fun _=>Modest.zero,by simp,by simp⟩⟩ ?_
 intro W base args ds gs before hval0 hW _ hcond _ hLaid hsh _
 have hval:∀ (j:Nat) t v,Tryz.f5.params[j]? = some t→args[j]? = some v→Value.okWide Tryz.prog W .any base t v:=hval0
 have hW':=hW
 obtain ⟨p,q,hA0,hV,rfl,_,_⟩:=hW
 have hA:DataW.TrodAll enc Tryz.prog W 0 (fun _=>true) true Tryz.f5.params.toList args.toList ds p:=hA0
 rw [Tryz.params5] at hA hval
 obtain ⟨v0,v1,v2,d0,d1,d2,p0,p1,p2,rfl,rfl,rfl,h0,h1,h2⟩:=trodAll_three hA
 obtain ⟨rfl,rfl⟩:=trodVars_none hV
 have k0:=h0
 have lt0:∀ x∈p0,x.block<W.heap.size:=by obtain ⟨m,hm⟩:=k0;exact DataW.trod_lt m _ _ _ hm
 obtain ⟨x0,f0,g0,e0⟩:=open_strokes (hval 0 27 v0 rfl rfl) h0
 have k1:=h1
 have lt1:∀ x∈p1,x.block<W.heap.size:=by obtain ⟨m,hm⟩:=k1;exact DataW.trod_lt m _ _ _ hm
 obtain ⟨a1,b1,rfl,i1,j1⟩:=open_siz (hval 1 23 v1 rfl rfl) h1
 have k2:=h2
 have lt2:∀ x∈p2,x.block<W.heap.size:=by obtain ⟨m,hm⟩:=k2;exact DataW.trod_lt m _ _ _ hm
 obtain ⟨x2,rfl,f2⟩:=open_colour (hval 2 38 v2 rfl rfl) h2
 obtain ⟨⟨en1,en2⟩,en3⟩:=env_of (show laidMetH Tryz.prog Rows.topBackendsRow.laid W from hLaid) hsh
 refine (tback_walk frame_any x0 _ a1 b1 x2 W f0 g0 i1 j1 f2 ⟨en1,en2⟩ en3).mono fun e W' ⟨he,hb⟩=>?_
 subst he
 exact ⟨_,rfl,_,_,_,[],_,[],hW',trodAll_mk1 (shut_bool Tryz.underlying4 _),(trodAll_cons_mk (Below.trod laid_w (by kernel_rfl) (of_decide_eq_true (by kernel_rfl)) k0 hb lt0) (trodAll_cons_mk (Below.trod laid_w (by kernel_rfl) (of_decide_eq_true (by kernel_rfl)) k1 hb lt1) (trodAll_cons_mk (Below.trod laid_w (by kernel_rfl) (of_decide_eq_true (by kernel_rfl)) k2 hb lt2) trodAll_mk0))),rfl,hb.frame _,fun h=>by cases h⟩
theorem tback_row:Rows.TopBackendsSaid :=
 OpenClaim.holds_of_cond 5 Tryz.f5 rfl rfl rfl rfl rfl rfl rfl ⟨rfl,rfl,rfl,rfl,rfl⟩ rfl rfl rfl rfl rfl (by kernel_rfl) Tryz.func5 (by kernel_rfl)
  (of_decide_eq_true (by kernel_rfl)) (by unfold Func.isWrapper;first | (rw [if_pos (by decide +kernel)];kernel_rfl) | (rw [if_neg (by decide +kernel)];exact ⟨rfl,rfl⟩))
  (fun os started H enc _ F=>by rw [OpenClaim.pre_eq_preRow];exact tback_lifted os started H enc F)
theorem tback_bare (f : FuncId) (fn : Func) (hf : Tryz.pinned.checked.prog.funcNamed "casement/casementtop.TopBackends" = some f) (hfn : Tryz.pinned.checked.prog.funcs[f]? = some fn) :
  true=Tryz.pinned.checked.prog.looks []∧∀ (j:Nat) t,fn.params[j]? = some t→Tryz.pinned.checked.prog.wantsStandIn t=false:=by
 obtain rfl : f = 5 := Option.some.inj ((show Tryz.prog.funcNamed "casement/casementtop.TopBackends" = some 5 by kernel_rfl).symm.trans hf) |>.symm
 obtain rfl:fn=Tryz.f5:=(Option.some.inj (Tryz.func5.symm.trans hfn)).symm
 refine ⟨by kernel_rfl,fun j t ht=>?_⟩
 rw [Tryz.params5] at ht
 have hm:t∈[27,23,38]:=by simpa using Array.mem_of_getElem? ht
 have hall:([27,23,38].all fun u=>!Tryz.prog.wantsStandIn u)=true:=by kernel_rfl
 exact (show Tryz.prog.wantsStandIn t=false by simpa using List.all_eq_true.1 hall t hm)
theorem tback_card:Rows.TopBackendsCardSaid :=
 Claim7.holds_tied_plain_at .later [] _ _ _ _ tback_row (fun _ h=>by cases h) (by kernel_rfl) (fun _ h=>by cases h) topBackends_row_tie rfl ⟨rfl,rfl⟩ (by kernel_rfl) rfl tback_bare (by kernel_rfl)
#print axioms tback_card
end Go.Proofs.YtapachlhdgehjaaGreatDoor
