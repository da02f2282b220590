/- MetaF, MetaG. Conditions: in each theorem. -/
import Derived.Test.YtlmkdmdbpopnhaaGreatDoorG22
import Derived.ChangeKeysEq
import Derived.BigQuiet
import Derived.Laws.Cover3
import Derived.Deep.MidRow
import Derived.Deep.RegionHeld3
set_option maxHeartbeats 3200000
set_option maxRecDepth 100000
set_option linter.unusedVariables false
open Go.Proofs.Tryz
open Go.Lib (hid)
namespace Go.Proofs.YtlmkdmdbpopnhaaGreatDoor
open Go.RowKit
theorem Zlo{P:Program}(w:World)(d:Nat)(e:TypeId)(k:IntKind)(he:P.underlying e=some (.int k))(xs ys:List Int):∀is:List Nat,(∀i∈is,i<xs.length/\i<ys.length)->
 (Op.eqItems (d+1) e 1 (xs.map (Value.int k)).toArray (ys.map (Value.int k)).toArray is).run P w=.ok (decide (∀i∈is,xs[i]?=ys[i]?)) w
 | [],_=>by simp[Op.eqItems]
 | i::is,h=>by
  obtain⟨h1,h2⟩:=h i (List.mem_cons_self ..);have hk:P.plainKey e=true:=by simp[Program.plainKey,he]
  have p1:=run_part_plain (P:=P) w hk (xs:=(xs.map (Value.int k)).toArray) (off:=i) (v:=.int k xs[i]) (by simp[h1]);have p2:=run_part_plain (P:=P) w hk (xs:=(ys.map (Value.int k)).toArray) (off:=i) (v:=.int k ys[i]) (by simp[h2]);simp only[Op.eqItems,Nat.mul_one,Sem.run_bind,p1,p2,Result.andThen_ok,run_equalIn_int w d e k k xs[i] ys[i] he];have ih:=Zlo w d e k he xs ys is (fun j hj=>h j (List.mem_cons_of_mem _ hj));have g1:xs[i]?=some xs[i]:=ZZc h1;have g2:ys[i]?=some ys[i]:=ZZc h2;by_cases hxy:xs[i]=ys[i]
  · have hb:(xs[i] == ys[i])=true:=by simpa using hxy
    rw[hb];simp only[Bool.not_true,Bool.false_eq_true,if_false,ih]
    congr 2
    apply propext;constructor
    · intro h' j hj;rcases List.mem_cons.1 hj with rfl|hj
      · rw[g1,g2,hxy]
      · exact h' j hj
    · intro h' j hj;exact h' j (List.mem_cons_of_mem _ hj)
  · have hb:(xs[i] == ys[i])=false:=by simpa using hxy
    rw[hb];simp only[Bool.not_false,if_true,Sem.run_pure]
    congr 1
    symm
    rw[decide_eq_false_iff_not];intro h'
    have:=h' i (List.mem_cons_self ..)
    rw[g1,g2]at this;exact hxy (Option.some.inj this)
theorem Zlp{P:Program}(w:World)(t e:TypeId)(k:IntKind){i0:TypeInfo}(n:Nat)(xs ys:List Int)(hu:P.underlying t=some (.array n e))(he:P.underlying e=some (.int k))(hi:P.info? e=some i0)(hc:P.cellsOf e=1)(hx:xs.length=n)(hy:ys.length=n)(d:Nat) :
 (Op.equalIn (d+2) t (.agg (xs.map (Value.int k)).toArray) (.agg (ys.map (Value.int k)).toArray)).run P w=.ok (decide (xs=ys)) w:=by
 rw[run_equalIn_array w (d+1) _ _ hu hi,hc,Zlo w d e k he xs ys _ (fun i hi=>by
  have:=List.mem_range.1 hi
  omega)]
 congr 1
 rw[decide_eq_decide];constructor
 · intro h;apply List.ext_getElem?;intro j;rcases Nat.lt_or_ge j n with hj|hj
   · exact h j (List.mem_range.2 hj)
   · rw[List.getElem?_eq_none (by omega),List.getElem?_eq_none (by omega)]
 · rintro rfl i _;rfl
theorem ZnV{P:Program}(w:World)(t e:TypeId)(k:IntKind){i0:TypeInfo}(n:Nat)(xs ys:List Int)(hu:P.underlying t=some (.array n e))(he:P.underlying e=some (.int k))(hi:P.info? e=some i0)(hc:P.cellsOf e=1)(hx:xs.length=n)(hy:ys.length=n) :
 (binOp .neq t (.agg (xs.map (Value.int k)).toArray) (.agg (ys.map (Value.int k)).toArray)).run P w=.ok (.bool (!decide (xs=ys))) w:=by
 rw[run_neq_struct,Zlp w t e k n xs ys hu he hi hc hx hy 9998];rfl
theorem ZnW{P:Program}(w:World)(t e:TypeId)(k:IntKind){i0:TypeInfo}(n:Nat)(xs ys:List Int)(hu:P.underlying t=some (.array n e))(he:P.underlying e=some (.int k))(hi:P.info? e=some i0)(hc:P.cellsOf e=1)(hx:xs.length=n)(hy:ys.length=n) :
 (binOp .eql t (.agg (xs.map (Value.int k)).toArray) (.agg (ys.map (Value.int k)).toArray)).run P w=.ok (.bool (decide (xs=ys))) w:=by
 rw[run_eql_struct,Zlp w t e k n xs ys hu he hi hc hx hy 9998];rfl
theorem ZdA.five(w:World)(d f n c d' f' n' c':Int)(v v':Value):ZdA ((w.alloc (.cells #[.int .i64 d,.int .i64 f,.int .i64 n,.int .i64 c,v] 41)).alloc (.cells #[.int .i64 d',.int .i64 f',.int .i64 n',.int .i64 c',v'] 41)) w.heap.size d f n c v:=
 (ZdA.new w d f n c v).below ((Below.refl _ _).alloc (ZZe _) _)
theorem Zgj(d f n c:Int)(v:Value)(w:World):Calls prog 208 #[.agg #[.int .i64 d,.int .i64 f,.int .i64 n,.int .i64 c,v]] w fun e w'=>e=.returned (.agg #[.int .i64 d,.int .i64 f,.int .i64 n,.int .i64 c])/\Below w.heap.size w w':=by
 have hX:Below w.heap.size w (w.alloc (.cells #[.int .i64 d,.int .i64 f,.int .i64 n,.int .i64 c,v] 41)):=(Below.refl _ _).alloc (ZZe _) _;have HM:=hid (ZdA.new w d f n c v);go_enter func208,ntmps208
 have hb:((w.alloc (.cells #[.int .i64 d,.int .i64 f,.int .i64 n,.int .i64 c,v] 41)).alloc (.cells #[.int .i64 d,.int .i64 f,.int .i64 n,.int .i64 c] 242)).heap[w.heap.size+1]?=some (.cells #[.int .i64 d,.int .i64 f,.int .i64 n,.int .i64 c] 242 (0,0)):=by
  have:=heap_alloc_new (w.alloc (.cells #[.int .i64 d,.int .i64 f,.int .i64 n,.int .i64 c,v] 41)) (.cells #[.int .i64 d,.int .i64 f,.int .i64 n,.int .i64 c] 242)
  simpa using this
 have d0:_=some (Value.int .i64 d):=cell_of_row _ (w.heap.size+1) 0 _ _ (0,0) hb;have d1:_=some (Value.int .i64 f):=cell_of_row _ (w.heap.size+1) 1 _ _ (0,0) hb;have d2:_=some (Value.int .i64 n):=cell_of_row _ (w.heap.size+1) 2 _ _ (0,0) hb;have d3:_=some (Value.int .i64 c):=cell_of_row _ (w.heap.size+1) 3 _ _ (0,0) hb;have HX:=hid (hX.alloc hX.size (.cells #[.int .i64 d,.int .i64 f,.int .i64 n,.int .i64 c] 242));clear hX hb;go_wp2
 refine bodyPost_ret (v:=.agg #[.int .i64 d,.int .i64 f,.int .i64 n,.int .i64 c]) (by
  simp[results,Tryz.results208,go_sem,d0,d1,d2,d3]) rfl ?_
 exact⟨rfl,HX.out⟩
def Zmu(w:World)(b:Nat)(x y:Int×Int×Int×Int)(u v:Value):Prop:=ZdA w b x.1 x.2.1 x.2.2.1 x.2.2.2 u/\ZdA w (b+1) y.1 y.2.1 y.2.2.1 y.2.2.2 v
theorem Zmu.below{w w':World}{b:Nat}{x y:Int×Int×Int×Int}{u v:Value}(h:Zmu w b x y u v)(hb:Below w.heap.size w w'):Zmu w' b x y u v:=⟨h.1.below hb,h.2.below hb⟩
theorem Zmu.cells{w:World}{b:Nat}{x y:Int×Int×Int×Int}{u v:Value}(h:Zmu w b x y u v) :
 w.cell? ⟨b,0,none⟩=some (.int .i64 x.1)/\w.cell? ⟨b,1,none⟩=some (.int .i64 x.2.1)/\w.cell? ⟨b,2,none⟩=some (.int .i64 x.2.2.1)/\w.cell? ⟨b,3,none⟩=some (.int .i64 x.2.2.2)/\w.cell? ⟨b,4,none⟩=some u/\
 w.cell? ⟨b+1,0,none⟩=some (.int .i64 y.1)/\w.cell? ⟨b+1,1,none⟩=some (.int .i64 y.2.1)/\w.cell? ⟨b+1,2,none⟩=some (.int .i64 y.2.2.1)/\w.cell? ⟨b+1,3,none⟩=some (.int .i64 y.2.2.2)/\w.cell? ⟨b+1,4,none⟩=some v:=by
 obtain⟨a0,a1,a2,a3,a4,_⟩:=h.1.cells;obtain⟨b0,b1,b2,b3,b4,_⟩:=h.2.cells;exact⟨a0,a1,a2,a3,a4,b0,b1,b2,b3,b4⟩
theorem ZnX:(prog.info? 3).map (·.size)=some 1:=by kernel_rfl
theorem Zph{w:World}{A A':Option Addr}{k m cap cap' B:Nat}(d f n c d' f' n' c':Int){l l':List Int}(hr:RI w B A k l)(hr':RI w B A' m l')(hB:B<=w.heap.size)(hk:k<=maxLen)(hm:m<=maxLen) :
 Calls prog 158 #[.agg #[.int .i64 d,.int .i64 f,.int .i64 n,.int .i64 c,.slice A k cap],.agg #[.int .i64 d',.int .i64 f',.int .i64 n',.int .i64 c',.slice A' m cap']] w fun e w'=>e=.returned (.bool (Zgh ⟨d,f,n,c,l⟩ ⟨d',f',n',c',l'⟩))/\Below w.heap.size w w':=by
 obtain⟨i0,hi,_⟩:∃i0,prog.info? 3=some i0/\True:=by
  cases hq:prog.info? 3 with
  | none=>have:=ZnX;rw[hq]at this;cases this
  | some i0=>exact⟨i0,rfl,trivial⟩
 have qeq:∀W:World,(binOp .eql 242 (.agg #[.int .i64 d,.int .i64 f,.int .i64 n,.int .i64 c]) (.agg #[.int .i64 d',.int .i64 f',.int .i64 n',.int .i64 c'])).run prog W=.ok (.bool (decide ([d,f,n,c] = [d',f',n',c']))) W:=fun W=>ZnW W 242 3 .i64 4 [d,f,n,c] [d',f',n',c'] underlying242 underlying3 hi (by kernel_rfl) rfl rfl
 have hX:Below w.heap.size w ((w.alloc (.cells #[.int .i64 d,.int .i64 f,.int .i64 n,.int .i64 c,.slice A k cap] 41)).alloc (.cells #[.int .i64 d',.int .i64 f',.int .i64 n',.int .i64 c',.slice A' m cap'] 41)):=((Below.refl _ _).alloc (ZZe _) _).alloc (by simp) _
 have hbx:Zmu ((w.alloc (.cells #[.int .i64 d,.int .i64 f,.int .i64 n,.int .i64 c,.slice A k cap] 41)).alloc (.cells #[.int .i64 d',.int .i64 f',.int .i64 n',.int .i64 c',.slice A' m cap'] 41)).drew w.heap.size (d,f,n,c) (d',f',n',c') (.slice A k cap) (.slice A' m cap'):=by
  refine⟨ZdA.five w d f n c d' f' n' c' _ _,?_⟩
  have:=heap_alloc_new (w.alloc (.cells #[.int .i64 d,.int .i64 f,.int .i64 n,.int .i64 c,.slice A k cap] 41)) (.cells #[.int .i64 d',.int .i64 f',.int .i64 n',.int .i64 c',.slice A' m cap'] 41)
  show(World.alloc _ _).heap[w.heap.size+1]?=_
  simpa using this
 have hT:=hX.drew;have c5:=hbx.cells;have HR:=hid (fun(w1:World) (hb:Below w.heap.size w w1)=>(hr.below (hb.mono hB)));have HR':=hid (fun(w1:World) (hb:Below w.heap.size w w1)=>(hr'.below (hb.mono hB)))
 have hsame:Zgh ⟨d,f,n,c,l⟩ ⟨d',f',n',c',l'⟩=(decide ([d,f,n,c] = [d',f',n',c'])&&decide (l=l')):=by
  unfold Zgh;by_cases a:d=d' <;> by_cases b:f=f' <;> by_cases e:n=n' <;> by_cases g:c=c' <;> simp[a,b,e,g]
 rw[hsame];clear hsame hr hr' hX
 cases hq:decide ([d,f,n,c] = [d',f',n',c'])with
 | false=>
  rw[hq]at qeq;clear hq;go_enter func158,ntmps158;go_wp2_with fail;obtain⟨x0,x1,x2,x3,x4,x5,x6,x7,x8,x9⟩:=c5
  first
   | (go_region_with
    (go_at_call 208;refine(Zgj _ _ _ _ _ _).mono ?_;rintro e wN ⟨rfl,hbN⟩;have hbx:=hbx.below hbN;have hT:=hT.trans (hbN.mono hT.size);obtain⟨x0,x1,x2,x3,x4,x5,x6,x7,x8,x9⟩:=hbx.cells))
   | fail
  all_goals go_wp2
  all_goals go_ret
  all_goals exact⟨rfl,hT⟩
 | true=>
  rw[hq]at qeq;clear hq;go_enter func158,ntmps158;go_wp2_with fail
  go_region_held3 (fun w'=>w'.cell? ⟨w.heap.size,0,none⟩=some (.int .i64 d)/\w'.cell? ⟨w.heap.size,1,none⟩=some (.int .i64 f)/\w'.cell? ⟨w.heap.size,2,none⟩=some (.int .i64 n)/\w'.cell? ⟨w.heap.size,3,none⟩=some (.int .i64 c)/\w'.cell? ⟨w.heap.size,4,none⟩=some (.slice A k cap)/\w'.cell? ⟨w.heap.size+1,0,none⟩=some (.int .i64 d')/\w'.cell? ⟨w.heap.size+1,1,none⟩=some (.int .i64 f')/\w'.cell? ⟨w.heap.size+1,2,none⟩=some (.int .i64 n')/\w'.cell? ⟨w.heap.size+1,3,none⟩=some (.int .i64 c')/\w'.cell? ⟨w.heap.size+1,4,none⟩=some (.slice A' m cap'))
   (first|with_reducible exact c5|exact c5)
   (first|(go_at_call 208;refine(Zgj _ _ _ _ _ _).mono ?_;rintro e wN ⟨rfl,hbN⟩;have hbx:=hbx.below hbN;have hT:=hT.trans (hbN.mono hT.size);have c5:=hbx.cells)|(go_at_call 209;refine(ZhY cap cap' (HR.out _ hT) (HR'.out _ hT) hk hm (ZZf hB hT.size) (ZZf hB hT.size)).mono ?_;rintro e wE ⟨rfl,hbE⟩;have hbx:=hbx.below hbE;have hT:=hT.trans (hbE.mono hT.size);have c5:=hbx.cells))
  all_goals go_wp2
  all_goals go_ret
  all_goals exact⟨rfl,hT⟩
theorem Zgk{w:World}{B:Nat}{b off n:Nat}{l:List Int}(h:RB w B (some ⟨b,off,none⟩) n l):w.rangeAt b off (l.map (Value.int .u8)):=fun j v hv=>by
 obtain⟨ad,e,hc⟩:=h.src j v hv;cases e;rw[ZdL]at hc;exact hc
theorem Zqy(data:List Int):Zez data (ZE data)=⟨at_ data 4 1,at_ data 6 4,at_ data 10 4,at_ data 14 4,ZgY data 18 4 (ZE data)⟩:=rfl
end Go.Proofs.YtlmkdmdbpopnhaaGreatDoor
