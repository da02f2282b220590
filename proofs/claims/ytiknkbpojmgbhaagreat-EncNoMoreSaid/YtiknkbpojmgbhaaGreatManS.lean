/- Bcmp, KeyQ, NumsP, ChaA, ManS. Conditions: in each theorem. -/
import Derived.Test.YtiknkbpojmgbhaaGreatViewP
import Derived.Lib.BytesEntry
import Derived.Laws.Externs
import Derived.Lib.Walk
import Derived.Lib.Strings
import Derived.Lib.Slices
import Derived.Laws.Strings3
import Derived.Test.YtiknkbpojmgbhaaGreatKeyB
import Derived.Test.YtiknkbpojmgbhaaGreatGRow
import Derived.Test.YtiknkbpojmgbhaaGreatViewC
import Derived.Test.YtiknkbpojmgbhaaGreatIntApp
set_option maxHeartbeats 800000
set_option maxRecDepth 100000
set_option linter.unusedVariables false
open Go.Proofs.Tryz
open Go.Lib (hid)
namespace Go.Proofs.YtiknkbpojmgbhaaGreat
open Go.RowKit
theorem Zbw:∀(x y:Txt),Lib.compareBytes x y<0↔x<y
 | [],[]=>by simp[Lib.compareBytes]
 | [],_::_=>by simp[Lib.compareBytes]
 | _::_,[]=>by simp[Lib.compareBytes]
 | a::x,b::y=>by
  unfold Lib.compareBytes;rw[List.cons_lt_cons_iff];by_cases h1:a<b
  · simp[h1]
  · by_cases h2:b<a
    · have h3:¬a=b:=fun e=>by subst e;exact absurd h2 (UInt8.lt_irrefl _)
      simp[h1,h2,h3]
    · have h3:a=b:=UInt8.le_antisymm (UInt8.not_lt.1 h2) (UInt8.not_lt.1 h1);subst h3;simp[h1,Zbw x y]
theorem Zpe{w:World}{B B' n m:Nat}{A A':Option Addr}{l l':List Int}(c d:Nat)(h:RB w B A n l)(h':RB w B' A' m l') :
 (Extern.BytealgCompare.compare #[.slice A n c,.slice A' m d]).run prog w=.ok (.int .i64 (Lib.compareBytes (tx l) (tx l'))) w:=by
 have key:∀{B n:Nat} {A:Option Addr} {l:List Int} (c:Nat),RB w B A n l->(Extern.Bytes.bytesOf (.slice A n c)).run prog w=.ok ⟨(tx l).toArray⟩ w:=by
  intro B n A l c h;rcases Nat.eq_zero_or_pos n with h0|h0
  · subst h0;obtain rfl:l = []:=List.eq_nil_of_length_eq_zero h.len
    cases A <;> rfl
  · obtain⟨b,off,rfl,_,hc⟩:=h.at_ h0
    have hl:=Lib.run_loadBytesX (P:=prog) w l ⟨b,off,none⟩ .empty (fun j x hj=>by
     have hjl:j<l.length:=(List.getElem?_eq_some_iff.1 hj).1;have e:(⟨b,off,none⟩:Addr).add j=⟨b,off+j,none⟩:=by unfold Addr.add;split <;> simp_all
     rw[e,hc j (by rw[<-h.len];exact hjl),hj]
     rfl)
    rw[h.len]at hl
    have he:(⟨ByteArray.empty.data++(Lib.bytesOf l).toArray⟩:ByteArray)=⟨(tx l).toArray⟩:=by
     apply ByteArray.ext
     show(#[]:Array UInt8)++(Lib.bytesOf l).toArray=(tx l).toArray
     simp[Lib.bytesOf,tx]
    rw[he]at hl;exact hl
 change Sem.run prog (do pure (goInt (Extern.BytealgCompare.cmp (<-Extern.Bytes.bytesOf (.slice A n c)) (<-Extern.Bytes.bytesOf (.slice A' m d))))) w=_;simp only[Sem.run_bind,Sem.run_pure,key c h,key d h',Result.andThen];rw[Lib.cmp_eq];simp[goInt]
theorem Zpf{w:World}{B B' n m:Nat}{A A':Option Addr}{l l':List Int}(c d:Nat)(h:RB w B A n l)(h':RB w B' A' m l') :
 Calls prog 173 #[.slice A n c,.slice A' m d] w fun e w'=>e=.returned (.int .i64 (Lib.compareBytes (tx l) (tx l')))/\w=w':=by
 have hr:=hid (Zpe c d h h');clear h h';generalize Lib.compareBytes (tx l) (tx l')=r at hr ⊢;go_enter func173,ntmps173;go_wp2_with fail;rw[run_callFunc_extern func234 (by kernel_rfl) (by kernel_rfl) (by kernel_rfl) (e:=Extern.BytealgCompare.compare) (by kernel_rfl),hr.out];simp only[Result.andThen];rw[Oper.upon_value];go_wp2;go_ret;exact⟨rfl,rfl⟩
def ZnQ(x y:Int):Int:=if x<y then -1 else if y<x then 1 else 0
def ZqI:List Int->List Int->Int
 | [],[]=>0
 | [],_::_=>-1
 | _::_,[]=>1
 | x::l,y::m=>if ZnQ x y≠0 then ZnQ x y else ZqI l m
theorem ZiS{x y:Int}(hx:0<=x/\x<256)(hy:0<=y/\y<256)(l m:Txt):Lib.compareBytes (tx [x]++l) (tx [y]++m)=if ZnQ x y≠0 then ZnQ x y else Lib.compareBytes l m:=by
 obtain⟨a,rfl⟩:=Int.eq_ofNat_of_zero_le hx.1;obtain⟨b,rfl⟩:=Int.eq_ofNat_of_zero_le hy.1
 show(if UInt8.ofNat a<UInt8.ofNat b then(-1:Int)else if UInt8.ofNat b<UInt8.ofNat a then 1 else Lib.compareBytes l m)=_
 have ha:(UInt8.ofNat a).toNat=a:=by rw[UInt8.toNat_ofNat'];omega
 have hb:(UInt8.ofNat b).toNat=b:=by rw[UInt8.toNat_ofNat'];omega
 have e1:UInt8.ofNat a<UInt8.ofNat b↔a<b:=by rw[UInt8.lt_iff_toNat_lt,ha,hb]
 have e2:UInt8.ofNat b<UInt8.ofNat a↔b<a:=by rw[UInt8.lt_iff_toNat_lt,ha,hb]
 unfold ZnQ;by_cases h1:a<b
 · rw[if_pos (e1.2 h1),if_pos (show(a:Int)<b by omega)];rfl
 · rw[if_neg (fun h=>h1 (e1.1 h)),if_neg (show ¬(a:Int)<b by omega)];by_cases h2:b<a
   · rw[if_pos (e2.2 h2),if_pos (show(b:Int)<a by omega)];rfl
   · rw[if_neg (fun h=>h2 (e2.1 h)),if_neg (show ¬(b:Int)<a by omega)];rfl
theorem ZbV(l m:List Int):tx (l++m)=tx l++tx m:=by simp[tx]
theorem Zlh:∀(k:Nat) (x y:Int),0<=x->x<256^k->0<=y->y<256^k->∀l m:Txt,Lib.compareBytes (tx (ZaS x k)++l) (tx (ZaS y k)++m)=if ZnQ x y≠0 then ZnQ x y else Lib.compareBytes l m
 | 0,x,y,hx0,hx1,hy0,hy1,l,m=>by
  have:x=0:=by rw[Int.pow_zero]at hx1;omega
  have:y=0:=by rw[Int.pow_zero]at hy1;omega
  subst x y;rfl
 | k+1,x,y,hx0,hx1,hy0,hy1,l,m=>by
  rw[Int.pow_succ]at hx1 hy1;generalize hp:(256:Int)^k=p at hx1 hy1;have ih:=Zlh k (x/256) (y/256) (by omega) (by rw[hp];omega) (by omega) (by rw[hp];omega);rw[ZaS,ZaS,ZbV,ZbV,List.append_assoc,List.append_assoc,ih,ZiS (by omega) (by omega)];unfold ZnQ;by_cases h1:x/256<y/256
  · rw[if_pos h1,if_pos (show x<y by omega)];rfl
  · rw[if_neg h1];by_cases h2:y/256<x/256
    · rw[if_pos h2,if_neg (show ¬x<y by omega),if_pos (show y<x by omega)];rfl
    · rw[if_neg h2];have e:x/256=y/256:=by omega
      rw[if_neg (by decide)];by_cases h3:x%256<y%256
      · rw[if_pos h3,if_pos (show x<y by omega)]
      · rw[if_neg h3,if_neg (show ¬x<y by omega)];by_cases h4:y%256<x%256
        · rw[if_pos h4,if_pos (show y<x by omega)]
        · rw[if_neg h4,if_neg (show ¬y<x by omega)]
theorem ZiT:∀(l m:List Int),(∀x∈l,0<=x/\x<4294967296)->(∀x∈m,0<=x/\x<4294967296)->Lib.compareBytes (tx (Zj 4 l)) (tx (Zj 4 m))=ZqI l m
 | [],[],_,_=>rfl
 | [],y::m,_,_=>by
  rw[show Zj 4 (y::m)=ZaS y 4++Zj 4 m from rfl,ZdV];rfl
 | x::l,[],_,_=>by
  rw[show Zj 4 (x::l)=ZaS x 4++Zj 4 l from rfl,ZdV];rfl
 | x::l,y::m,hl,hm=>by
  rw[show Zj 4 (x::l)=ZaS x 4++Zj 4 l from rfl,show Zj 4 (y::m)=ZaS y 4++Zj 4 m from rfl,ZbV,ZbV];have h1:=hl x List.mem_cons_self;have h2:=hm y List.mem_cons_self;rw[Zlh 4 x y h1.1 h1.2 h2.1 h2.2,ZiT l m (fun z hz=>hl z (List.mem_cons_of_mem _ hz)) (fun z hz=>hm z (List.mem_cons_of_mem _ hz))];rfl
theorem Zpg{t:Int}(ht:0<=t/\t<256){l m:List Int}(hl:∀x∈l,0<=x/\x<4294967296)(hm:∀x∈m,0<=x/\x<4294967296)(h7:l.length<=7)(h7':m.length<=7):Lib.compareBytes (tx (Zi t l)) (tx (Zi t m))=ZqI l m:=by
 unfold Zi;rw[List.take_of_length_le h7,List.take_of_length_le h7',Zcp hl,Zcp hm];show Lib.compareBytes (tx ([t]++Zj 4 l)) (tx ([t]++Zj 4 m))=_;rw[ZbV,ZbV,ZiS ht ht,ZiT l m hl hm];unfold ZnQ;rw[if_neg (by omega)]
theorem ZdW{a b c d:Int}(ha:0<=a/\a<256)(hb:0<=b/\b<256)(hc:0<=c/\c<256)(hd:0<=d/\d<256) :
 (0<=numOf [a,b,c,d]/\numOf [a,b,c,d]<4294967296)/\ZaS (numOf [a,b,c,d]) 4 = [a,b,c,d]:=by
 have e:numOf [a,b,c,d]=((a*256+b)*256+c)*256+d:=by
  rw[Zhh _ (fun x hx=>by
   simp only[List.mem_cons,List.not_mem_nil,or_false]at hx
   rcases hx with rfl|rfl|rfl|rfl <;> assumption)]
  show wrap64 ((((0*256+a)*256+b)*256+c)*256+d)=_;unfold wrap64;omega
 rw[e];refine⟨by omega,?_⟩;show [(((a*256+b)*256+c)*256+d)/256/256/256%256,(((a*256+b)*256+c)*256+d)/256/256%256,(((a*256+b)*256+c)*256+d)/256%256,(((a*256+b)*256+c)*256+d)%256]=_;have e1:(((a*256+b)*256+c)*256+d)/256/256/256%256=a:=by omega
 have e2:(((a*256+b)*256+c)*256+d)/256/256%256=b:=by omega
 have e3:(((a*256+b)*256+c)*256+d)/256%256=c:=by omega
 have e4:(((a*256+b)*256+c)*256+d)%256=d:=by omega
 rw[e1,e2,e3,e4]
theorem Zph{S:VS}(h:S.Ok){y:Txt}{p:Txt×List Int}:p∈S.scan y↔S.now p.1=some p.2/\y.isPrefixOf p.1=true:=by
 unfold VS.scan;rw[List.mem_filter,<-h.look];exact⟨fun q=>⟨h.nowL.look q.1,q.2⟩,fun q=>⟨Zao q.1,q.2⟩⟩
end Go.Proofs.YtiknkbpojmgbhaaGreat
namespace Go.Proofs.YtiknkbpojmgbhaaGreat
open Go.RowKit Go.Maps
structure ZnR(S:VS):Prop where
 wf:S.W.length<=2147483647
 wk:∀p∈S.W,p.1.length<=140737488355328
 cf:S.C.length<=32767
 ck:∀p∈S.C,p.1.length<=140737488355328
theorem Zqg(L:TL)(p:Txt×Option (List Int)):(VS.one L p).length<=L.length+1:=by
 unfold VS.one;split
 · exact ZL _ _ _
 · exact Nat.le_succ_of_le (ZhW _ _)
theorem Zhq:∀(C:List (Txt×Option (List Int))) (L:TL),(C.foldl VS.one L).length<=L.length+C.length
 | [],L=>Nat.le_refl _
 | p::C,L=>by
  have h1:=Zhq C (VS.one L p);have h2:=Zqg L p;rw[List.foldl_cons,List.length_cons];omega
theorem Zli(S:VS)(x:Txt):(S.scan x).length<=S.W.length+S.C.length:=Nat.le_trans (List.length_filter_le _ _) (Zhq _ _)
end Go.Proofs.YtiknkbpojmgbhaaGreat
namespace Go.Proofs.YtiknkbpojmgbhaaGreat
open Go.RowKit
theorem mem_oneM{L:TL}{p:Txt×Option (List Int)}{q:Txt×List Int}(h:q∈VS.one L p):q∈L∨q.1=p.1:=by
 unfold VS.one at h
 split at h
 · rcases mem_setT h with rfl|h
   · exact Or.inr rfl
   · exact Or.inl h
 · exact Or.inl (List.mem_filter.1 h).1
theorem Zgu:∀(C:List (Txt×Option (List Int))) (L:TL),(∀p∈L,p.1.length<=60)->(∀p∈C,p.1.length<=60)->∀q∈C.foldl VS.one L,q.1.length<=60
 | [],L,h,g=>h
 | p::C,L,h,g=>by
  rw[List.foldl_cons];refine Zgu C _ (fun q hq=>?_) fun q hq=>g q (List.mem_cons_of_mem _ hq)
  rcases mem_oneM hq with hq|e
  · exact h q hq
  · rw[e];exact g p List.mem_cons_self
structure Zv(S:VS)(n:Nat):Prop where
 ok:S.Ok
 len:S.W.length+S.C.length<=n
 wk:∀p∈S.W,p.1.length<=60
 ck:∀p∈S.C,p.1.length<=60
theorem Zv.start:Zv ⟨[],[]⟩ 0:=⟨⟨List.Pairwise.nil,List.Pairwise.nil⟩,Nat.le_refl _,(fun p (h:p∈([]:TL))=>absurd h List.not_mem_nil),fun p (h:p∈([]:List (Txt×Option (List Int))))=>absurd h List.not_mem_nil⟩
theorem Zv.more{S:VS}{n k:Nat}(h:Zv S n)(hk:n<=k):Zv S k:=⟨h.ok,Nat.le_trans h.len hk,h.wk,h.ck⟩
theorem Zv.put{S:VS}{n:Nat}(h:Zv S n){x:Txt}(hx:x.length<=60)(v:List Int):Zv (S.put x v) (n+1):=
 ⟨h.ok.put x v,by
  have h1:=h.len;have h2:(Zaw S.C x (some v)).length<=S.C.length+1:=ZL _ _ _;show S.W.length+(Zaw S.C x (some v)).length<=n+1
  omega,h.wk,fun p hp=>by
  rcases mem_setT hp with rfl|hp
  · exact hx
  · exact h.ck p hp⟩
theorem Zv.commit{S:VS}{n:Nat}(h:Zv S n):Zv S.commit n:=by
 refine⟨h.ok.commit,?_,?_,fun p (hp:p∈([]:List (Txt×Option (List Int))))=>absurd hp List.not_mem_nil⟩
 · show S.commit.W.length+0<=n;rw[h.ok.commitW];exact Nat.le_trans (Zhq _ _) h.len
 · rw[h.ok.commitW];exact Zgu _ _ h.wk h.ck
theorem Zv.abort{S:VS}{n:Nat}(h:Zv S n):Zv S.abort n:=
 ⟨h.ok.abort,Nat.le_trans (Nat.add_le_add_left (Nat.zero_le _) _) h.len,h.wk,fun p (hp:p∈([]:List (Txt×Option (List Int))))=>absurd hp List.not_mem_nil⟩
theorem Zv.scanOk{S:VS}{n:Nat}(h:Zv S n)(hn:n<=32767):ZnR S:=
 ⟨by have:=h.len;omega,(fun p hp=>Nat.le_trans (h.wk p hp) (by decide)),by have:=h.len;omega,fun p hp=>Nat.le_trans (h.ck p hp) (by decide)⟩
theorem Zv.scan{S:VS}{n:Nat}(h:Zv S n)(x:Txt):((S.scan x).map Zaq).length<=n:=by
 rw[List.length_map];exact Nat.le_trans (Zli S x) h.len
end Go.Proofs.YtiknkbpojmgbhaaGreat
