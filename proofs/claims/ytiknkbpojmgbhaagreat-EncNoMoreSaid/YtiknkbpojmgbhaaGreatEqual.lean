/- App, SClone, Equal. Conditions: in each theorem. -/
import Derived.Test.YtiknkbpojmgbhaaGreatBase
import Derived.Laws.AppendOwnNone
import Derived.Laws.BytesArg
import Derived.Lib.Bytes
set_option maxHeartbeats 400000
set_option maxRecDepth 100000
set_option linter.unusedVariables false
open Go.Proofs.Tryz
namespace Go.Proofs.YtiknkbpojmgbhaaGreat
open Go.RowKit
theorem Zg7:(prog.info? 5).map (fun i=>(i.zero,i.size,i.bytes))=some (some (.int .u8 0),1,1):=by kernel_rfl
theorem Znf:(prog.info? 5).map (·.size)=some 1:=by kernel_rfl
theorem ZpS{w:World}{base e size n:Nat}{v:Value}{xs:List Value}(h:w.ownsRow base e size v n xs):∀k,v.ownBlock=some k->base<=k:=by
 intro k hk;rcases h.2 with ⟨rfl,_⟩|⟨g,cap,cur,rfl,hb,_⟩
 · simp[Value.ownBlock]at hk
 · simp[Value.ownBlock]at hk;omega
theorem Zin{w:World}{base e n:Nat}{v:Value}{xs:List Value}(h:w.ownsRow base e 1 v n xs):∃A c,v=.slice A n c/\n<=c:=by
 rcases h.2 with ⟨rfl,rfl⟩|⟨g,cap,cur,rfl,hb,_,hnc,_⟩
 · exact⟨none,0,rfl,Nat.le_refl _⟩
 · exact⟨_,cap,rfl,hnc⟩
theorem Zax{P:Program}{w:World}(base:Nat)(t ty e:TypeId)(i:TypeInfo)(size:Nat)(ht:P.underlying t=some (.slice e))(hi:P.info? e=some i)
 (v:Value) (n:Nat) (xs:List Value) (hown:w.ownsRow base e size v n xs) (c:Nat) :
 (Builtin.append_ #[t,t] ty #[v,.slice none 0 c]).run P w=.ok v w:=by
 rcases hown.2 with ⟨rfl,rfl⟩|⟨g,cap,cur,rfl,_,_,hnc,_⟩
 · simp[Builtin.append_,run_underlying ht,sizeOf,typeInfo,hi,Builtin.lenOf,Builtin.firstCells]
 · simp[Builtin.append_,run_underlying ht,sizeOf,typeInfo,hi,Builtin.lenOf,Builtin.firstCells,hnc,storeCells]
theorem Z5{w:World}{ops:Array Oper}{rest:List Oper}{o:Oper}{a:Act}{Q:Exit->Act->World->Prop}(hgd:o.guard=none)(s x:Operand)
 (ho:o.op=.call {callee:=.builtin .append,args:=#[s,x],argTypes:=#[99,99]})
 (base:Nat) (v:Value) (n:Nat) (xs:List Int) (hs:a.eval s=v) (hown:w.ownsRow base 5 1 v n (xs.map (Value.int .u8)))
 (B:Nat) (A:Option Addr) (m c:Nat) (l:List Int) (hx:a.eval x=.slice A m c) (hr:RB w B A m l)
 (h63:n+m<=140737488355328) (hbase:base<=w.heap.size)
 (h:∀v' w',w'.ownsRow base 5 1 v' (n+m) ((xs++l).map (Value.int .u8))->w.grownBy w' v.ownBlock->Below base w w'->wpList prog ops Q rest (a.put o.dst v') w'):wpList prog ops Q (o::rest) a w:=by
 obtain⟨i0,hi,hz0,hz1,hz2⟩:=info_parts Zg7;rcases A with _|ad
 · have hm:m=0:=by
    rcases Nat.eq_zero_or_pos m with h0|h0
    · exact h0
    · obtain⟨b,off,e,_⟩:=hr.at_ h0;cases e
   subst hm;have hl:l = []:=List.eq_nil_of_length_eq_zero hr.len;subst hl;refine wpList_plain hgd fun K hK=>?_
   have hrun:=Zax (P:=prog) (w:=w) base 99 o.type 5 i0 1 underlying99 hi v n _ hown c;unfold Oper.wp;simp[execOp,ho,resolve,invoke,builtin,hs,hx,hrun,Result.andThen];exact hK _ _ (h v w (by simpa using hown) (World.grownBy.refl w _) (Below.refl _ _))
 · refine wpList_append_own w hgd s x 99 ho base 5 i0 (.int .u8 0) 1 1 underlying99 hi hz0 hz1 hz2 rfl (by decide) v n _ hs hown ad m c (l.map (Value.int .u8)) hx (by simp[hr.len]) ?_ (Zbl l) (by unfold maxLen;omega) (by omega) hbase ?_
   · intro j u hj;obtain⟨ad',e,hc⟩:=hr.src j u hj;cases e;exact hc
   · intro v' w' h1 h2 _;exact h v' w' (by simpa using h1) h2 ((Below.refl base w).grown h2 hbase (ZpS hown))
theorem ZoW{w:World}{base e n:Nat}{v:Value}{l:List Int}(h:w.ownsRow base e 1 v n (l.map (Value.int .u8)))(hl:Zm l):∃A c,v=.slice A n c/\n<=c/\RB w w.heap.size A n l:=by
 obtain⟨A,c,rfl,hc⟩:=Zin h;exact⟨A,c,rfl,hc,RB.of_own h hl⟩
theorem Ze9{w:World}{base base' e size n:Nat}{v:Value}{xs:List Value}(h:w.ownsRow base e size v n xs)(hb:base'<=base):w.ownsRow base' e size v n xs:=by
 rcases h.2 with h'|⟨g,cap,cur,hv,hg,h3⟩
 · exact⟨h.1,.inl h'⟩
 · exact⟨h.1,.inr ⟨g,cap,cur,hv,Nat.le_trans hb hg,h3⟩⟩
theorem Zng{w w':World}{base e size n:Nat}{v:Value}{xs:List Value}(h:w.ownsRow base e size v n xs)(hb:Below w.heap.size w w'):w'.ownsRow base e size v n xs:=by
 rcases h.2 with h'|⟨g,cap,cur,hv,hg,hh,h3⟩
 · exact⟨h.1,.inl h'⟩
 · have hlt:g<w.heap.size:=by
    rcases Nat.lt_or_ge g w.heap.size with h'|h'
    · exact h'
    · rw[Array.getElem?_eq_none h']at hh;cases hh
   exact⟨h.1,.inr ⟨g,cap,cur,hv,hg,(hb.block g hlt).trans hh,h3⟩⟩
theorem RB.conv{w:World}{B n:Nat}{A:Option Addr}{l:List Int}(h:RB w B A n l)(c:Nat):(convert 99 9 (.slice A n c)).run prog w=.ok (.string (strOfNums l)) w:=by
 rcases Nat.eq_zero_or_pos n with hn|hn
 · subst hn;obtain rfl:l = []:=List.eq_nil_of_length_eq_zero h.len;rw[run_convert_bytes_string w 99 9 5 _ 0 c underlying99 underlying5 underlying9]
   cases A <;> simp[Conv.bytesToString,loadCells]
   all_goals rfl
 · obtain⟨b,off,rfl,_,hc⟩:=h.at_ hn;exact run_convert_bytes_arg (P:=prog) w 99 5 underlying99 underlying5 b off n c l h.len (fun i hi=>by rw[hc i hi];simp) 9 underlying9
theorem Zg8{l m:List Int}(hl:Zm l)(hm:Zm m)(h:(strOfNums l).toList=(strOfNums m).toList):l=m:=by
 have key:∀l:List Int,Zm l->l=(l.map fun n=>UInt8.ofNat n.toNat).map (fun u=>(u.toNat:Int)):=by
  intro l hl;rw[List.map_map]
  conv=>lhs;rw[<-List.map_id l]
  refine List.map_congr_left fun x hx=>?_
  obtain⟨a,b⟩:=hl x hx;simp;omega
 have e:∀l:List Int,(strOfNums l).toList=l.map fun n=>UInt8.ofNat n.toNat:=fun l=>by rw[Lib.strOfNums_toList];rfl
 rw[e,e]at h;rw[key l hl,key m hm,h]
theorem Zfa{w:World}{B B' n m:Nat}{A A':Option Addr}{l l':List Int}(c d:Nat)(h:RB w B A n l)(h':RB w B' A' m l') :
 Calls prog 131 #[.slice A n c,.slice A' m d] w fun e w'=>e=.returned (.bool (decide (l=l')))/\w=w':=by
 have h1:=h.conv c;have h2:=h'.conv d
 have hd:decide (l=l')=((strOfNums l).toList == (strOfNums l').toList):=by
  by_cases e:l=l'
  · subst e;simp
  · have:¬(strOfNums l).toList=(strOfNums l').toList:=fun e'=>e (Zg8 h.bytes h'.bytes e')
    simp[e,this]
 rw[hd];clear hd;go_enter func131,ntmps131;go_wp2;go_ret;exact⟨rfl,rfl⟩
end Go.Proofs.YtiknkbpojmgbhaaGreat
