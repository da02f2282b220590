/- DevC, DevD, DevE, DevF, DevG, DevH. Conditions: in each theorem. -/
import Derived.Test.YtlmkdmdbpopnhaaGreatDoorG9
import Derived.Maps.AppendAt
import Derived.Deep.RegionWith
set_option maxHeartbeats 8000000
set_option maxRecDepth 100000
set_option linter.unusedVariables false
open Go.Proofs.Tryz
open Go.Lib (hid)
namespace Go.Proofs.YtlmkdmdbpopnhaaGreatDoor
open Go.RowKit
theorem Zbr{w:World}{B n:Nat}{A:Option Addr}{l:List Int}(c:Nat)(h:RB w B A n l)(hB:B<=w.heap.size)(hn:n<=140737488355328) :
 Calls prog 112 #[.slice A n c] w fun e w'=>∃A' c',e=.returned (.slice A' n c')/\n<=c'/\w'.ownsRow w.heap.size 5 1 (.slice A' n c') n (l.map (Value.int .u8))/\Below w.heap.size w w':=by
 have q22:∀(w:World) (a:Option Addr) (n c n' c':Nat),(binOp .eql 55 (.slice a n c) (.slice none n' c')).run prog w=.ok (.bool a.isNone) w:=fun w a n c n' c'=>Lib.run_eql_slice_nil w _ _ a n c n' c' underlying55
 rcases A with _|ad
 · have hm:n=0:=by
    rcases Nat.eq_zero_or_pos n with h0|h0
    · exact h0
    · obtain⟨b,off,e,_⟩:=h.at_ h0;cases e
   subst hm;obtain rfl:l = []:=List.eq_nil_of_length_eq_zero h.len;go_enter func112,ntmps112;go_wp2;go_ret;exact⟨none,0,rfl,ZZe _,World.ownsRow_nil _ _ _ _,Below.refl _ _⟩
 · go_enter func112,ntmps112
   go_wp2_with (at_builtin;refine Zab rfl _ _ rfl w.heap.size _ 0 [] rfl (World.ownsRow_made w #[] 0 (ZZe _) (Nat.zero_le _) rfl) B (some ad) n c l rfl (h.alloc hB _) (by omega) (by simp) ?_;intro v1 w1 hown1 _ hb1)
   simp only[Nat.zero_add,List.nil_append]at hown1;obtain⟨A',c',rfl,hc'⟩:=Zdv hown1;go_ret;exact⟨A',c',rfl,hc',hown1,((Below.refl w.heap.size w).alloc (ZZe _) _).trans hb1⟩
theorem Za2(w:World):(zeroValue 55).run prog w=.ok (.slice none 0 0) w:=by kernel_rfl
theorem ZlV{S:DS}(i:Int)(h:S.down=true):S.readE i=5/\S.readL i = []:=by
 have e:S.readE i=5:=by simp[DS.readE,h]
 exact⟨e,by simp[DS.readL,e]⟩
theorem ZoV{S:DS}{i:Int}(h:S.down=false)(hi:¬S.has i):S.readE i=1/\S.readL i = []:=by
 have e:S.readE i=1:=by simp[DS.readE,h,hi]
 exact⟨e,by simp[DS.readL,e]⟩
theorem Znl{S:DS}{i:Int}(h:S.down=false)(hi:S.has i):S.readE i=0/\S.readL i=S.last i.toNat:=by
 have e:S.readE i=0:=by simp[DS.readE,h,hi]
 exact⟨e,by simp[DS.readL,e]⟩
theorem Zj2{w:World}{base g:Nat}(h:w.ownsRow base 5 1 (.slice (some ⟨g,0,none⟩) 256 256) 256 (madeCells (Value.int .u8 0).cells (256*1)).toList):RB w w.heap.size (some ⟨g,0,none⟩) 256 Zdg:=by
 refine RB.of_own (base:=base) (e:=5) (c:=256) ?_ ZfZ.2;rw[show(Value.int .u8 0).cells = #[Value.int .u8 0]from rfl,toList_madeCells_one,Nat.mul_one]at h;rw[Zdg,List.map_replicate];exact h
theorem ZiC{w:World}{base e n c:Nat}{A:Option Addr}{xs:List Value}(h:w.ownsRow base e 1 (.slice A n c) n xs):∀a,A=some a->∃g,a=⟨g,0,none⟩/\base<=g:=by
 intro a ha;subst ha;rcases h.2 with ⟨e1,_⟩|⟨g,cap,cur,e1,hb,_⟩
 · cases e1
 · cases e1;exact⟨g,rfl,hb⟩
theorem Zg4(i:Int)(w:World)(F:Nat->Prop)(p:Addr)(S:DS)(h:DAt w F p S):Calls prog 85 #[.pointer (some p),.int .i64 i] w fun e w'=>∃(A:Option Addr) (n c:Nat),e=.returned (.tuple #[.slice A n c,.int .i64 (S.readE i)])/\n<=c/\RB w' w'.heap.size A n (S.readL i)/\Below w.heap.size w w'/\∀a,A=some a->∃g,a=⟨g,0,none⟩/\w.heap.size<=g:=by
 obtain⟨b,sb,fb,left,pv,sN,fN,sf,ff,rfl,hrow,hrest,harm,hok,hdom,hcnt,hFb,hlt,c0,c1,c2,c3,c4,c5,c6⟩:=h.parts;have hn:(0:Int)<(S.n:Int):=by have:=hok.size;omega
 have hnm:=hok.size;by_cases hd:S.down=true
 · obtain⟨e1,e2⟩:=ZlV i hd;rw[hd]at c1;rw[e1,e2];clear h hrow hrest hdom hd e1 e2 hlt;go_enter func85,ntmps85;go_wp2_with fail;refine(Zfm c1 c2 hn).mono ?_;rintro e w1⟨rfl,rfl⟩;go_wp2;go_ret2;exact⟨none,0,0,rfl,ZZe _,RB.nil_,Below.refl _ _,fun a ha=>by cases ha⟩
 have hd':S.down=false:=by simpa using hd
 rw[hd']at c1;by_cases hi:S.has i
 · obtain⟨e1,e2⟩:=Znl hd' hi;rw[e1,e2];unfold DS.has at hi;obtain⟨k,rfl⟩:=Int.eq_ofNat_of_zero_le hi.1;have hk:k<S.n:=by omega
   have HH:=hid (show decide (0<=(k:Int)/\(k:Int)<(S.n:Int))=true by simpa using hi);rw[Int.toNat_natCast];have hki : -9223372036854775808<=(k:Int)/\(k:Int)<=9223372036854775807:=by omega
   have q1:=hrest.freshM.look underlying125 (Za2 w) hki;have q2:=hrest.safeM.look underlying125 (Za2 w) hki;have hbytes:=hok.lastBytes k;have hfr:=hrest.freshC k hk;have hsf:=hrest.safeC k hk;have hdk:=hdom k hk;have hsame:=hok.same k;clear h hrow hrest hdom hd e1 e2 hlt hok;rcases hff:ff (k:Int)with _|v
   · rw[hff]at q1 hdk;simp only[Option.getD_none,Option.isSome_none]at q1;have hl:S.last k=S.safe k:=hsame (fun hm=>by simpa using hdk.2 hm);rw[hl]at hbytes ⊢;clear hl hsame hdk hfr;rcases hsv:sf (k:Int)with _|v
     · rw[hsv]at q2 hsf;simp only[Option.getD_none,Option.isSome_none]at q2;obtain⟨i0,hi',hz0,hz1,hz2⟩:=info_parts Zbg;rw[show S.safe k=Zdg from hsf];clear hsf;go_enter func85,ntmps85;go_wp2_with fail;refine(ZbI c1 c2 hn).mono ?_;rintro e w1⟨rfl,rfl⟩;go_wp2_with fail;refine(ZaK _ c2).mono ?_;rw[HH.out];rintro e w1⟨rfl,rfl⟩
       go_wp2_with (refine wpList_make_full w rfl _ _ 55 rfl w.heap.size 5 i0 (.int .u8 0) 1 underlying55 hi' hz0 hz1 .i64 .i64 _ _ 256 rfl rfl rfl rfl (by rw[hz2];decide) (by decide) (ZZe _) ?_;intro w1 hown1 hg1;have hb1:Below w.heap.size w w1:=(Below.refl _ _).grown hg1 (ZZe _) (by simp);have hr1:=Zj2 hown1;clear hown1 hg1)
       go_ret2;exact⟨_,256,256,rfl,ZZe _,hr1,hb1,fun a ha=>by cases ha;exact⟨_,rfl,ZZe _⟩⟩
     · rw[hsv]at q2 hsf;obtain⟨g,c,rfl,hc,hr⟩:=Zlb.rb hsf hbytes;simp only[Option.getD_some,Option.isSome_some]at q2;clear hsf;go_enter func85,ntmps85;go_wp2_with fail;refine(ZbI c1 c2 hn).mono ?_;rintro e w1⟨rfl,rfl⟩;go_wp2_with fail;refine(ZaK _ c2).mono ?_;rw[HH.out];rintro e w1⟨rfl,rfl⟩;go_wp2_with fail;refine(Zbr c hr (ZZe _) (by decide)).mono ?_;rintro e w1⟨A',c',rfl,hc',hown,hb⟩;go_wp2;go_ret2;exact⟨_,_,_,rfl,hc',RB.of_own hown hbytes.2,hb,ZiC hown⟩
   · rw[hff]at q1;obtain⟨g,c,rfl,hc,hr⟩:=Zlb.rb (hfr v hff) hbytes;simp only[Option.getD_some,Option.isSome_some]at q1;clear hsf hfr hdk hsame q2;go_enter func85,ntmps85;go_wp2_with fail;refine(ZbI c1 c2 hn).mono ?_;rintro e w1⟨rfl,rfl⟩;go_wp2_with fail;refine(ZaK _ c2).mono ?_;rw[HH.out];rintro e w1⟨rfl,rfl⟩;go_wp2_with fail;refine(Zbr c hr (ZZe _) (by decide)).mono ?_;rintro e w1⟨A',c',rfl,hc',hown,hb⟩;go_wp2;go_ret2;exact⟨_,_,_,rfl,hc',RB.of_own hown hbytes.2,hb,ZiC hown⟩
 · obtain⟨e1,e2⟩:=ZoV hd' hi;rw[e1,e2];have HH:=hid (show decide (0<=i/\i<(S.n:Int))=false by simpa[DS.has] using hi);clear h hrow hrest hdom hd e1 e2 hlt hi;go_enter func85,ntmps85;go_wp2_with fail;refine(ZbI c1 c2 hn).mono ?_;rintro e w1⟨rfl,rfl⟩;go_wp2_with fail;refine(ZaK _ c2).mono ?_;rw[HH.out];rintro e w1⟨rfl,rfl⟩;go_wp2;go_ret2;exact⟨none,0,0,rfl,ZZe _,RB.nil_,Below.refl _ _,fun a ha=>by cases ha⟩
theorem ZoW(i:Int)(w:World)(F:Nat->Prop)(p:Addr)(S:DS)(h:DAt w F p S):Calls prog 85 #[.pointer (some p),.int .i64 i] w fun e w'=>∃(A:Option Addr) (n c:Nat),e=.returned (.tuple #[.slice A n c,.int .i64 (S.readE i)])/\n<=c/\RB w' w'.heap.size A n (S.readL i)/\Below w.heap.size w w':=
 (Zg4 i w F p S h).mono fun e w' ⟨A,n,c,h1,h2,h3,h4,_⟩=>⟨A,n,c,h1,h2,h3,h4⟩
theorem Zql(i:Int)(w:World)(F:Nat->Prop)(p:Addr)(S:DS)(h:DAt w F p S)(hr:S.readE i=0):Calls prog 85 #[.pointer (some p),.int .i64 i] w fun e w'=>∃g c,e=.returned (.tuple #[.slice (some ⟨g,0,none⟩) 256 c,.int .i64 0])/\256<=c/\w.heap.size<=g/\RB w' w'.heap.size (some ⟨g,0,none⟩) 256 (S.last i.toNat)/\Below w.heap.size w w':=by
 have hok:S.Ok:=by
  obtain⟨b,sb,fb,left,pv,sN,fN,sf,ff,rfl,hrow,hrest,harm,hok,rest⟩:=h;exact hok
 refine(Zg4 i w F p S h).mono ?_;rintro e w'⟨A,n,c,rfl,hc,hrb,hb,hA⟩;rw[hr];have e2:S.readL i=S.last i.toNat:=by unfold DS.readL;rw[if_pos hr]
 rw[e2]at hrb;have hn:n=256:=by rw[<-hrb.len];exact(hok.lastBytes _).1
 subst hn;obtain⟨b,off,e3,_⟩:=hrb.at_ (by decide);obtain⟨g,e4,hg⟩:=hA _ e3;cases e4;subst e3;exact⟨b,c,rfl,hc,hg,hrb,hb⟩
theorem ZdN{w:World}{pv:Value}{S:DS}(hok:S.Ok)(hp:w.ownsRow 0 3 1 pv S.pend.length ((S.pend.map Int.ofNat).map (Value.int .i64))):∃A c,pv=.slice A S.pend.length c/\S.pend.length<=c/\RI w w.heap.size A S.pend.length S.pending:=by
 obtain⟨A,c,rfl,hc⟩:=Zat hp;have hsz:=hok.size
 exact⟨A,c,rfl,hc,(RI.of_own hp (fun x hx=>by
  obtain⟨k,hk,rfl⟩:=List.mem_map.1 hx
  have:=hok.pendLt k hk
  have e:Int.ofNat k=(k:Int):=rfl;rw[e]
  omega)).1⟩
theorem Zb8{S:DS}(h:S.Ok):S.pend.length<=S.n:=ZoT S.n S.pend h.pendNodup h.pendLt
theorem Zeq{w:World}{ops:Array Oper}{rest:List Oper}{o:Oper}{a:Act}{Q:Exit->Act->World->Prop}(hgd:o.guard=none)(s x:Operand)
 (ho:o.op=.call {callee:=.builtin .append,args:=#[s,x],argTypes:=#[39,39]})
 (v:Value) (n:Nat) (xs:List Int) (hs:a.eval s=v) (b:Nat) (z:Int) (T:TypeId) (hx:a.eval x=.slice (some ⟨b,0,none⟩) 1 1)
 (hown:w.ownsRow 0 3 1 v n (xs.map (Value.int .i64))) (hb:w.heap[b]?=some (.cells #[.int .i64 z] T)) (h63:n<=8796093022207)
 (h:∀A' c' w',w'.ownsRow 0 3 1 (.slice A' (n+1) c') (n+1) ((xs++[z]).map (Value.int .i64))->w.grownBy w' v.ownBlock->((Value.slice A' (n+1) c').ownBlock=v.ownBlock∨(Value.slice A' (n+1) c').ownBlock=some w.heap.size)->wpList prog ops Q rest (a.put o.dst (.slice A' (n+1) c')) w'):wpList prog ops Q (o::rest) a w:=by
 obtain⟨i0,hi,hz0,hz1,hz2⟩:=info_parts ZfW;refine wpList_append_own_at w hgd s x 39 ho 0 3 i0 (.int .i64 0) 1 8 underlying39 hi hz0 hz1 hz2 rfl (by decide) v n _ hs hown ⟨b,0,none⟩ 1 1 [.int .i64 z] hx rfl (World.news_of_block (cs:=#[.int .i64 z]) hb) (fun u hu=>by obtain rfl:=List.mem_singleton.1 hu;rfl) (by unfold maxLen;omega) (by omega) (Nat.zero_le _) ?_;intro v' w' h1 h2 _ h4;obtain⟨A',c',rfl,_⟩:=Zat h1;exact h A' c' w' (by simpa using h1) h2 h4
section
variable{w w4 w5:World}{F:Nat->Prop}{b sb fb:Nat}{left:Int}{pv:Value}{sN fN:Nat}{sf ff:Int->Option Value}{S:DS}
theorem ZiD{pl:List Nat}{i:Nat}{l:List Int}{v:Value}(hok:S.Ok)(hd:S.down=false)(hi:i<S.n)(hl:l.length=256/\Ze l)(hpl:pl=if i∈S.pend then S.pend else S.pend++[i])(hw:S.writes<=9223372036854775806)
 (hrow:w4.rowIs b 127 7 (ZaH left false S.n sb fb pv S.writes)) (hrest:Zd1 w4 (FN F w) sb fb pv S.n S.safe S.last pl sN fN sf ff) (harm:Zlc left (S.arm.map (· - 1))) (hdom:∀i:Nat,i<S.n->((ff i).isSome=true↔i∈S.pend)) (hcnt:sN+fN<=S.writes/\S.pend.length<=fN) (hFb:F b) (ht:Zf F w w4)
 (hb5:Below w4.heap.size w4 w5) (hown:w5.ownsRow w4.heap.size 5 1 v 256 (l.map (Value.int .u8))) :
 ∃w6,(Instr.mapUpdate 125 (.map (some fb)) (.int .i64 (i:Int)) v).run prog w5=.ok () w6/\w5.cell? ⟨b,4,none⟩=some (.map (some fb))/\w6.cell? ⟨b,6,none⟩=some (.int .i64 (S.writes:Int))/\w6.frozen? ⟨b,6,none⟩=false/\
  Hid (ZaD F w (w6.setCell ⟨b,6,none⟩ (.int .i64 ((S.writes:Int)+1))) ⟨b,0,none⟩ (S.put i l)):=by
 have hrest5:=hrest.below hb5;have hrow5:=hrow.of_block (hb5.block _ hrow.lt);have hsz:=hok.size;obtain⟨w6,hrun,him,hgr⟩:=hrest5.freshM.store underlying125 (i:=(i:Int)) (by unfold maxLen;omega) (by omega) v
 have hne:b≠fb:=by
  obtain⟨es,c,h1⟩:=hrest5.freshM.block;obtain⟨cs,h2,_⟩:=hrow5;intro e;rw[e,h1]at h2;cases h2
 have hrow6:=hrow5.of_block (hgr.block b hrow5.lt (fun e=>hne (by injection e)));have hC:Zlb w5 (FN F w) v l:=Zlb.of_own hown (fun k hk=>.inr (ZZf ht.size hk))
 have hrest6:Zd1 w6 (FN F w) sb fb pv S.n S.safe (S.put i l).last pl sN (fN+1) sf _:=hrest5.freshed hgr him (last':=(S.put i l).last) (fun j hj u hu=>by
  have e1:(S.put i l).last j=if j=i then l else S.last j:=rfl
  by_cases e:j=i
  · subst e;rw[if_pos rfl]at e1;rw[if_pos rfl]at hu;obtain rfl:v=u:=by injection hu
    exact .inr (by rw[e1];exact hC)
  · rw[if_neg e]at e1;rw[if_neg (by omega)]at hu
    exact .inl ⟨hu,e1⟩)
 have hputok:(S.put i l).Ok:=DS.put_ok hok hi hl;have hpl':pl=(S.put i l).pend:=hpl;refine⟨w6,hrun,hrow5.cell (i:=4) (by decide),hrow6.cell (i:=6) (by decide),hrow6.frozen 6,hid ?_⟩;have hrow7:=(hrow6.set 6 (.int .i64 ((S.writes:Int)+1))).congr (ZjZ _ _ _ _ _ _ _ (S.writes+1));have ht4:=ht.grow (Zcl hb5) (fun x e=>by cases e);have ht6:=ht4.grow hgr (fun x e=>by injection e with e;rw[<-e];exact hrest.Ff);have ht7:=ht6.grow (ZU w6 b 6 (.int .i64 ((S.writes:Int)+1))) (fun x e=>by injection e with e;rw[<-e];exact .inl hFb);rw[hpl']at hrest6;refine ZaD.mk' (S:=S.put i l) (left:=left) ?_ (hrest6.setCell hrow6 6 _) harm hputok (fun j hj=>?_) ⟨?_,?_,?_⟩ (.inl hFb) ht7
 · have e1:(S.put i l).down=false:=hd;rw[e1];exact hrow7
 · show(if(j:Int)=(i:Int)then some v else ff j).isSome=true↔j∈(if i∈S.pend then S.pend else S.pend++[i])
   have hdj:=hdom j hj;by_cases e:j=i
   · subst e;rw[if_pos rfl];by_cases hm:j∈S.pend <;> simp[hm]
   · rw[if_neg (by omega),hdj];by_cases hm:i∈S.pend <;> simp[hm,e]
 · show sN+(fN+1)<=S.writes+1;omega
 · show(if i∈S.pend then S.pend else S.pend++[i]).length<=fN+1
   split
   · omega
   · rw[List.length_append];simp;omega
 · show S.writes+1<=9223372036854775807;omega
theorem Zld(hrow:w.rowIs b 127 7 (ZaH left false S.n sb fb pv S.writes))(harm:Zlc left S.arm)(hne:S.arm≠some 0) :
 Calls prog 197 #[.pointer (some ⟨b,0,none⟩)] w fun e w'=>∃left',e=.returned (.bool false)/\w'.rowIs b 127 7 (ZaH left' false S.n sb fb pv S.writes)/\Zlc left' (S.arm.map (· - 1))/\w.grownBy w' (some b)/\w'.heap.size=w.heap.size:=by
 have c0:w.cell? ⟨b,0,none⟩=some (.int .i64 left):=hrow.cell (i:=0) (by decide);have c1:w.cell? ⟨b,1,none⟩=some (.bool false):=hrow.cell (i:=1) (by decide);obtain⟨hr,h⟩:=harm;rcases h with ⟨hl,hn⟩|⟨k,hk,ha⟩
 · refine(Zne hl c0 c1).mono ?_;rintro e w'⟨rfl,rfl⟩;exact⟨left,rfl,hrow,⟨hr,.inl ⟨hl,by rw[hn];rfl⟩⟩,(World.grownBy.refl _ _),rfl⟩
 · rcases k with _|k
   · exact absurd ha hne
   · have hk':left=(k:Int)+1:=by rw[hk];omega
     rw[hk']at c0;refine(Znd (by omega) c0 c1 (hrow.frozen 0)).mono ?_;rintro e w'⟨rfl,rfl⟩;exact⟨k,rfl,(hrow.set 0 (.int .i64 (k:Int))).congr (ZdK _ _ _ _ _ _ _ _),⟨by omega,.inr ⟨k,rfl,by rw[ha];rfl⟩⟩,ZU w b 0 _,by simp⟩
end
theorem ZlW{S:DS}{i:Nat}{l:List Int}(hd:S.down=false)(hi:i<S.n)(hl:l.length=256)(ha:S.arm≠some 0):S.writeE i l=0/\S.write i l=S.put i l:=by
 have h:S.has (i:Int):=⟨by omega,by omega⟩
 exact⟨by simp[DS.writeE,hd,h,hl,ha],by simp[DS.write,hd,h,hl,ha]⟩
theorem ZiE{S:DS}{i:Nat}{l:List Int}(hd:S.down=false)(hi:i<S.n)(hl:l.length=256)(ha:S.arm=some 0):S.writeE i l=5/\S.write i l = {S with down:=true}:=by
 have h:S.has (i:Int):=⟨by omega,by omega⟩
 exact⟨by simp[DS.writeE,hd,h,hl,ha],by simp[DS.write,hd,h,hl,ha]⟩
theorem Znm{S:DS}{i:Int}{l:List Int}(hd:S.down=false)(h:¬(S.has i/\l.length=256)):S.writeE i l=1/\S.write i l=S:=by
 exact⟨by simp only[DS.writeE,hd];rw[if_neg (by simp),if_pos h],by simp only[DS.write,hd];rw[if_neg (by simp),if_pos h]⟩
theorem Zj3{S:DS}{i:Int}{l:List Int}(hd:S.down=true):S.writeE i l=5/\S.write i l=S:=⟨by simp[DS.writeE,hd],by simp[DS.write,hd]⟩
theorem ZaD.same{F:Nat->Prop}{w:World}{p:Addr}{S:DS}(h:DAt w F p S):ZaD F w w p S:=⟨F,h,Zf.refl _ _,fun k hk=>.inl hk⟩
theorem Znn{w:World}{b o:Nat}{v:Value}(h:w.cell? ⟨b,o,none⟩=some v):b<w.heap.size:=by
 rcases Nat.lt_or_ge b w.heap.size with h'|h'
 · exact h'
 · simp[World.cell?,Array.getElem?_eq_none h']at h
theorem RB.here{w:World}{B n:Nat}{A:Option Addr}{l:List Int}(h:RB w B A n l):RB w w.heap.size A n l:=
 ⟨h.1,h.2.1,fun hn=>by
  obtain⟨b,off,e,_,hc⟩:=h.2.2 hn
  exact⟨b,off,e,Znn (hc 0 hn),hc⟩⟩
theorem RB.far{w w':World}{n ab ao:Nat}{l:List Int}{row:Option Nat}(h:RB w w.heap.size (some ⟨ab,ao,none⟩) n l)(hg:w.grownBy w' row)(hne:∀x,row=some x->x≠ab):RB w' w'.heap.size (some ⟨ab,ao,none⟩) n l:=
 ⟨h.1,h.2.1,fun hn=>by
  obtain⟨b,off,e,hb,hc⟩:=h.2.2 hn;cases e
  exact⟨ab,ao,rfl,ZZd hb hg.size,fun j hj=>(World.cell?_of_block (a:=⟨ab,ao+j,none⟩) (hg.block ab hb (fun e=>hne ab e.symm rfl))).trans (hc j hj)⟩⟩
theorem Zj4{w X w3:World}{F:Nat->Prop}{b sb fb i:Nat}{left:Int}{pv v3:Value}{sN fN:Nat}{sf ff:Int->Option Value}{S:DS}{wr:Nat}(hrow:X.rowIs b 127 7 (ZaH left false S.n sb fb pv wr))(hrest:Zd1 X (FN F w) sb fb pv S.n S.safe S.last S.pend sN fN sf ff)(hX:w.heap.size<=X.heap.size)
 (hown:w3.ownsRow 0 3 1 v3 (S.pend.length+1) (((S.pend.map Int.ofNat)++[(i:Int)]).map (Value.int .i64))) (hg:X.grownBy w3 pv.ownBlock) (hloc:v3.ownBlock=pv.ownBlock∨v3.ownBlock=some X.heap.size) (hFb:F b) (ht:Zf F w X) :
 w3.cell? ⟨b,5,none⟩=some pv/\w3.frozen? ⟨b,5,none⟩=false/\∃w4,w3.setCell ⟨b,5,none⟩ v3=w4/\w4.rowIs b 127 7 (ZaH left false S.n sb fb v3 wr)/\Zd1 w4 (FN F w) sb fb v3 S.n S.safe S.last (S.pend++[i]) sN fN sf ff/\Zf F w w4/\(∀ab ao n l,¬F ab->ab<w.heap.size->RB X X.heap.size (some ⟨ab,ao,none⟩) n l->RB w4 w4.heap.size (some ⟨ab,ao,none⟩) n l):=by
 have hpb:∀x,pv.ownBlock=some x->x≠b/\FN F w x:=fun x hx=>by
  obtain⟨cur,h1⟩:=Zfl hrest.pend x hx;obtain⟨cs,h2,_⟩:=hrow;refine⟨fun e=>?_,hrest.Fp x hx⟩;rw[e,h2]at h1;simp at h1
 have hrow3:=hrow.of_block (hg.block b hrow.lt (fun e=>(hpb b e.symm).1 rfl))
 have hv3:∀g,v3.ownBlock=some g->FN F w g:=fun g hgg=>by
  rcases hloc with e|e
  · exact hrest.Fp g (by rw[<-e];exact hgg)
  · rw[e]at hgg;injection hgg with hgg;exact .inr (by omega)
 have hrest3:=hrest.pended (i:=i) hg (by simpa using hown) hv3;have ht3:=ht.grow hg (fun x e=>(hpb x e).2);refine⟨hrow3.cell (i:=5) (by decide),hrow3.frozen 5,_,rfl,(hrow3.set 5 v3).congr (ZfF _ _ _ _ _ _ _ _),hrest3.setCell hrow3 5 v3,ht3.grow (ZU w3 b 5 v3) (fun x e=>by injection e with e;rw[<-e];exact .inl hFb),fun ab ao n l hF hlt hr=>?_⟩;refine(hr.far hg (fun x hx e=>?_)).far (ZU w3 b 5 v3) (fun x hx e=>?_)
 · rcases(hpb x hx).2 with h|h
   · exact hF (e ▸ h)
   · omega
 · injection hx with hx;exact hF (by rw[<-e,<-hx];exact hFb)
theorem Zno(i:Nat)(A:Option Addr)(c B:Nat)(l:List Int)(w:World)(F:Nat->Prop)(p:Addr)(S:DS)(h:DAt w F p S)(hr:RB w B A 256 l)(hc:256<=c)(hw:S.writes<=9223372036854775806)(hA:∀a,A=some a->¬F a.block)(hd:S.down=false)(hi:i<S.n)(ha:S.arm≠some 0)(hm:i∉S.pend) :
 Calls prog 137 #[.pointer (some p),.int .i64 (i:Int),.slice A 256 c] w fun e w'=>e=.returned (.int .i64 0)/\ZaD F w w' p (S.put i l):=by
 obtain⟨b,sb,fb,left,pv,sN,fN,sf,ff,rfl,hrow,hrest,harm,hok,hdom,hcnt,hFb,hlt,c0,c1,c2,c3,c4,c5,c6⟩:=h.parts;have hn:(0:Int)<(S.n:Int):=by have:=hok.size;omega
 have hnm:=hok.size;have hpl:=Zb8 hok;rw[hd]at c1 hrow;have HH:=hid (show decide (0<=(i:Int)/\(i:Int)<(S.n:Int))=true by simp;omega);have HB:=hid (Zld hrow harm ha);have hbl:l.length=256/\Ze l:=⟨hr.len,hr.bytes⟩
 have hr0:=hr.here;obtain⟨ab,ao,rfl,hab,_⟩:=hr0.at_ (by omega);have hAF:¬F ab:=hA _ rfl;have hki : -9223372036854775808<=(i:Int)/\(i:Int)<=9223372036854775807:=by omega
 have hfr:=hid (show ff (i:Int)=none by
  have:=hdom i hi
  rcases hq:ff (i:Int)with _|v
  · rfl
  · rw[hq]at this
    exact absurd (this.1 rfl) hm)
 have HD:=hid hdom;clear h hA hr c0 c3 c5 c6 hdom hlt;go_enter func137,ntmps137;go_wp2_with fail;refine(ZbI c1 c2 hn).mono ?_;rintro e w1⟨rfl,rfl⟩;go_wp2_with fail;refine(ZaK _ c2).mono ?_;rw[HH.out];rintro e w1⟨rfl,rfl⟩;go_wp2_with fail;refine HB.out.mono ?_;rintro e w1⟨left',rfl,hrow1,harm1,hg1,hs1⟩
 have hrest1:Zd1 w1 (FN F w) sb fb pv S.n S.safe S.last S.pend sN fN sf ff:=hrest.keep (fun _ h _=>.inl h) (fun k _ hk hne=>hg1.block k hk (fun e=>by
  obtain⟨cs,h2,_⟩:=hrow
  have:k=b:=by injection e
  subst this
  exact hne cs h2))
 have ht1:Zf F w w1:=(Zf.refl F w).grow hg1 (fun x e=>by injection e with e;rw[<-e];exact .inl hFb);have hr1:=hr0.far hg1 (fun x e e'=>by injection e with e;exact hAF (by rw[<-e',<-e];exact hFb));have d4:w1.cell? ⟨b,4,none⟩=some (.map (some fb)):=hrow1.cell (i:=4) (by decide);have d5:w1.cell? ⟨b,5,none⟩=some pv:=hrow1.cell (i:=5) (by decide);have q1:=hrest1.freshM.look underlying125 (Za2 w1) hki;have hS1:=hid hs1;clear hs1;have hRow:=hid hrow1;have hRest:=hid hrest1;have hR1:=hid hr1;have hT1:=hid ht1;have hArm1:=hid harm1;clear hrow hrest HB HH hr0 c1 c2 c4 hrow1 hrest1 hr1 ht1 hg1 harm1 harm hn;have hz:w1.heap.size=w1.heap.size:=rfl;rw[hfr.out]at q1;simp only[Option.getD_none,Option.isSome_none]at q1;have hX:Below w1.heap.size w1 (w1.alloc (.cells #[.int .i64 (i:Int)] 3)):=(Below.refl _ _).alloc (ZZe _) _;have hRX:=hRest.out.below hX;have hrX:=hRow.out.of_block (hX.block _ hRow.out.lt);have hpX:=hRX.pend;obtain⟨Ap,kp,rfl,hkp⟩:=Zat hpX;have hbX:(w1.alloc (.cells #[.int .i64 (i:Int)] 3)).heap[w1.heap.size]?=some (.cells #[.int .i64 (i:Int)] 3):=heap_alloc_new _ _;have hwX:w.heap.size<=(w1.alloc (.cells #[.int .i64 (i:Int)] 3)).heap.size:=by have:=hS1.out;simp;omega
 have htX:=hT1.out.grow (Zcl hX) (fun x e=>by cases e);have hr8X:=hR1.out.far (Zcl hX) (fun x e=>by cases e);have HPS:=fun v3 w3 h1 h2 h3=>Zj4 (w3:=w3) (v3:=v3) (i:=i) hrX hRX hwX h1 h2 h3 hFb htX
 have HPX:=hid HPS;have HR8:=hid hr8X;clear hRX hrX htX hr8X HPS hX hz hwX
 go_wp2_with (at_builtin;refine Zeq rfl _ _ rfl _ S.pend.length (S.pend.map Int.ofNat) rfl w1.heap.size (i:Int) _ rfl hpX hbX (by omega) ?_;intro A3 k3 w3 hown3 hg3 hloc3;obtain⟨d5',f5',w4,hw4,hrow4,hrest4,ht4,hr4⟩:=HPX.out _ w3 hown3 hg3 hloc3;have hr4:=hr4 _ _ _ _ hAF hab HR8.out;clear hown3 hg3 hloc3)
 have e4:w4.drew.cell? ⟨b,4,none⟩=some (.map (some fb)):=hrow4.cell (i:=4) (by decide);have hr4d:RB w4.drew w4.drew.heap.size (some ⟨ab,ao,none⟩) 256 l:=hr4.drew;have HW:=hid (fun w5 v hb hown=>ZiD (w4:=w4.drew) (w5:=w5) (v:=v) (pl:=S.pend++[i]) hok hd hi hbl (by rw[if_neg hm]) hw hrow4 (hrest4.keep (fun _ h _=>h) (fun _ _ _ _=>rfl)) hArm1.out HD.out ⟨hcnt.1,hcnt.2.1⟩ hFb ⟨ht4.os,ht4.tape,ht4.output,ht4.size,ht4.block⟩ hb hown);clear hrow4 hrest4 hpX hbX d4 d5 d5' f5' q1 hw4 hr4 ht4
 go_region_with
  (go_at_call 112;refine(Zbr c hr4d (ZZe _) (by decide)).mono ?_;rintro e w5 ⟨A5,k5,rfl,_,hown5,hb5⟩;obtain⟨w6,hrun6,g4,g6,f6,HE⟩:=HW.out w5 _ hb5 hown5;clear hown5 hb5)
 all_goals go_wp2
 all_goals go_ret
 all_goals exact⟨rfl,HE.out⟩
theorem Znp(i:Nat)(A:Option Addr)(c B:Nat)(l:List Int)(w:World)(F:Nat->Prop)(p:Addr)(S:DS)(h:DAt w F p S)(hr:RB w B A 256 l)(hc:256<=c)(hw:S.writes<=9223372036854775806)(hA:∀a,A=some a->¬F a.block)(hd:S.down=false)(hi:i<S.n)(ha:S.arm≠some 0)(hm:i∈S.pend) :
 Calls prog 137 #[.pointer (some p),.int .i64 (i:Int),.slice A 256 c] w fun e w'=>e=.returned (.int .i64 0)/\ZaD F w w' p (S.put i l):=by
 obtain⟨b,sb,fb,left,pv,sN,fN,sf,ff,rfl,hrow,hrest,harm,hok,hdom,hcnt,hFb,hlt,c0,c1,c2,c3,c4,c5,c6⟩:=h.parts;have hn:(0:Int)<(S.n:Int):=by have:=hok.size;omega
 have hnm:=hok.size;have hpl:=Zb8 hok;rw[hd]at c1 hrow;have HH:=hid (show decide (0<=(i:Int)/\(i:Int)<(S.n:Int))=true by simp;omega);have HB:=hid (Zld hrow harm ha);have hbl:l.length=256/\Ze l:=⟨hr.len,hr.bytes⟩
 have hr0:=hr.here;obtain⟨ab,ao,rfl,hab,_⟩:=hr0.at_ (by omega);have hAF:¬F ab:=hA _ rfl;have hki : -9223372036854775808<=(i:Int)/\(i:Int)<=9223372036854775807:=by omega
 have hfr:=hid (show(ff (i:Int)).isSome=true by
  exact(hdom i hi).2 hm)
 have HD:=hid hdom;clear h hA hr c0 c3 c5 c6 hdom hlt;go_enter func137,ntmps137;go_wp2_with fail;refine(ZbI c1 c2 hn).mono ?_;rintro e w1⟨rfl,rfl⟩;go_wp2_with fail;refine(ZaK _ c2).mono ?_;rw[HH.out];rintro e w1⟨rfl,rfl⟩;go_wp2_with fail;refine HB.out.mono ?_;rintro e w1⟨left',rfl,hrow1,harm1,hg1,hs1⟩
 have hrest1:Zd1 w1 (FN F w) sb fb pv S.n S.safe S.last S.pend sN fN sf ff:=hrest.keep (fun _ h _=>.inl h) (fun k _ hk hne=>hg1.block k hk (fun e=>by
  obtain⟨cs,h2,_⟩:=hrow
  have:k=b:=by injection e
  subst this
  exact hne cs h2))
 have ht1:Zf F w w1:=(Zf.refl F w).grow hg1 (fun x e=>by injection e with e;rw[<-e];exact .inl hFb);have hr1:=hr0.far hg1 (fun x e e'=>by injection e with e;exact hAF (by rw[<-e',<-e];exact hFb));have d4:w1.cell? ⟨b,4,none⟩=some (.map (some fb)):=hrow1.cell (i:=4) (by decide);have d5:w1.cell? ⟨b,5,none⟩=some pv:=hrow1.cell (i:=5) (by decide);have q1:=hrest1.freshM.look underlying125 (Za2 w1) hki;have hS1:=hid hs1;clear hs1;have hRow:=hid hrow1;have hRest:=hid hrest1;have hR1:=hid hr1;have hT1:=hid ht1;have hArm1:=hid harm1;clear hrow hrest HB HH hr0 c1 c2 c4 hrow1 hrest1 hr1 ht1 hg1 harm1 harm hn;obtain⟨v0,hv0⟩:=Option.isSome_iff_exists.1 hfr.out;rw[hv0]at q1;simp only[Option.getD_some,Option.isSome_some]at q1;go_wp2_with fail;have hrow4:=hRow.out;have hrest4:=hRest.out;have ht4:=hT1.out;have hr4:=hR1.out;generalize w1=w4 at *;have e4:w4.drew.cell? ⟨b,4,none⟩=some (.map (some fb)):=hrow4.cell (i:=4) (by decide);have hr4d:RB w4.drew w4.drew.heap.size (some ⟨ab,ao,none⟩) 256 l:=hr4.drew;have HW:=hid (fun w5 v hb hown=>ZiD (w4:=w4.drew) (w5:=w5) (v:=v) (pl:=S.pend) hok hd hi hbl (by rw[if_pos hm]) hw hrow4 (hrest4.keep (fun _ h _=>h) (fun _ _ _ _=>rfl)) hArm1.out HD.out ⟨hcnt.1,hcnt.2.1⟩ hFb ⟨ht4.os,ht4.tape,ht4.output,ht4.size,ht4.block⟩ hb hown);clear hrow4 hrest4 d4 d5 q1 hr4 ht4
 go_region_with
  (go_at_call 112;refine(Zbr c hr4d (ZZe _) (by decide)).mono ?_;rintro e w5 ⟨A5,k5,rfl,_,hown5,hb5⟩;obtain⟨w6,hrun6,g4,g6,f6,HE⟩:=HW.out w5 _ hb5 hown5;clear hown5 hb5)
 all_goals go_wp2
 all_goals go_ret
 all_goals exact⟨rfl,HE.out⟩
theorem Zj5(i:Int)(A:Option Addr)(n c:Nat)(w:World)(F:Nat->Prop)(p:Addr)(S:DS)(h:DAt w F p S)(hd:S.down=true) :
 Calls prog 137 #[.pointer (some p),.int .i64 i,.slice A n c] w fun e w'=>e=.returned (.int .i64 5)/\w=w':=by
 obtain⟨b,sb,fb,left,pv,sN,fN,sf,ff,rfl,hrow,hrest,harm,hok,hdom,hcnt,hFb,hlt,c0,c1,c2,c3,c4,c5,c6⟩:=h.parts;have hn:(0:Int)<(S.n:Int):=by have:=hok.size;omega
 rw[hd]at c1;clear h hrow hrest hdom hlt;go_enter func137,ntmps137;go_wp2_with fail;refine(Zfm c1 c2 hn).mono ?_;rintro e w1⟨rfl,rfl⟩;go_wp2;go_ret;exact⟨rfl,rfl⟩
theorem ZlX(i:Int)(A:Option Addr)(n c:Nat)(w:World)(F:Nat->Prop)(p:Addr)(S:DS)(h:DAt w F p S)(hn63:n<=4096)(hd:S.down=false)(hno:¬(S.has i/\n=256)) :
 Calls prog 137 #[.pointer (some p),.int .i64 i,.slice A n c] w fun e w'=>e=.returned (.int .i64 1)/\w=w':=by
 obtain⟨b,sb,fb,left,pv,sN,fN,sf,ff,rfl,hrow,hrest,harm,hok,hdom,hcnt,hFb,hlt,c0,c1,c2,c3,c4,c5,c6⟩:=h.parts;have hn:(0:Int)<(S.n:Int):=by have:=hok.size;omega
 rw[hd]at c1;clear h hrow hrest hdom hlt;by_cases hi:S.has i
 · have HH:=hid (show decide (0<=i/\i<(S.n:Int))=true by simpa[DS.has] using hi);have hne:n≠256:=fun e=>hno ⟨hi,e⟩
   have k:((n:Int) != 256)=true:=by simp;omega
   clear hi hno;go_enter func137,ntmps137;go_wp2_with fail;refine(ZbI c1 c2 hn).mono ?_;rintro e w1⟨rfl,rfl⟩;go_wp2_with fail;refine(ZaK _ c2).mono ?_;rw[HH.out];rintro e w1⟨rfl,rfl⟩;go_wp2;go_ret;exact⟨rfl,rfl⟩
 · have HH:=hid (show decide (0<=i/\i<(S.n:Int))=false by simpa[DS.has] using hi);clear hi hno;go_enter func137,ntmps137;go_wp2_with fail;refine(ZbI c1 c2 hn).mono ?_;rintro e w1⟨rfl,rfl⟩;go_wp2_with fail;refine(ZaK _ c2).mono ?_;rw[HH.out];rintro e w1⟨rfl,rfl⟩;go_wp2;go_ret;exact⟨rfl,rfl⟩
theorem Zj6(i:Nat)(A:Option Addr)(c:Nat)(w:World)(F:Nat->Prop)(p:Addr)(S:DS)(h:DAt w F p S)(hd:S.down=false)(hi:i<S.n)(ha:S.arm=some 0) :
 Calls prog 137 #[.pointer (some p),.int .i64 (i:Int),.slice A 256 c] w fun e w'=>e=.returned (.int .i64 5)/\ZaD F w w' p {S with down:=true}:=by
 obtain⟨b,sb,fb,left,pv,sN,fN,sf,ff,rfl,hrow,hrest,harm,hok,hdom,hcnt,hFb,hlt,c0,c1,c2,c3,c4,c5,c6⟩:=h.parts;have hn:(0:Int)<(S.n:Int):=by have:=hok.size;omega
 have hnm:=hok.size;rw[hd]at c1 hrow
 have hl:left=0:=by
  rcases harm.2 with ⟨_,e⟩|⟨k,e1,e2⟩
  · rw[ha]at e;cases e
  · rw[ha]at e2;obtain rfl:0=k:=by injection e2
    exact e1
 subst hl;have f1:=hrow.frozen 1;have HH:=hid (show decide (0<=(i:Int)/\(i:Int)<(S.n:Int))=true by simp;omega)
 have HE:Hid (ZaD F w (w.setCell ⟨b,1,none⟩ (.bool true)) ⟨b,0,none⟩ {S with down:=true}):=hid (by
  refine ZaD.mk' (S:={S with down:=true}) ((hrow.set 1 (.bool true)).congr (ZfE _ _ _ _ _ _ _ _)) ((hrest.keep (fun _ h _=>.inl h) (fun _ _ _ _=>rfl)).setCell hrow 1 _) harm ⟨hok.size,hok.safeBytes,hok.lastBytes,hok.pendLt,hok.pendNodup,hok.same⟩ hdom hcnt (.inl hFb) ((Zf.refl F w).grow (ZU w b 1 _) (fun x e=>.inl (by injection e with e;rw[<-e];exact hFb))))
 clear h hrow hrest hdom hlt;go_enter func137,ntmps137;go_wp2_with fail;refine(ZbI c1 c2 hn).mono ?_;rintro e w1⟨rfl,rfl⟩;go_wp2_with fail;refine(ZaK _ c2).mono ?_;rw[HH.out];rintro e w1⟨rfl,rfl⟩;go_wp2_with fail;refine(ZoQ c0 c1 f1).mono ?_;rintro e w1⟨rfl,rfl⟩;go_wp2;go_ret;exact⟨rfl,HE.out⟩
theorem Znq(i:Int)(A:Option Addr)(n c B:Nat)(l:List Int)(w:World)(F:Nat->Prop)(p:Addr)(S:DS)(h:DAt w F p S)(hr:RB w B A n l)(hc:n<=c)(hn:n<=4096)(hw:S.writes<=9223372036854775806)(hA:∀a,A=some a->¬F a.block) :
 Calls prog 137 #[.pointer (some p),.int .i64 i,.slice A n c] w fun e w'=>e=.returned (.int .i64 (S.writeE i l))/\ZaD F w w' p (S.write i l):=by
 by_cases hd:S.down=true
 · obtain⟨e1,e2⟩:=Zj3 (i:=i) (l:=l) hd;rw[e1,e2];refine(Zj5 i A n c w F p S h hd).mono ?_;rintro e w'⟨rfl,rfl⟩;exact⟨rfl,ZaD.same h⟩
 have hd':S.down=false:=by simpa using hd
 by_cases hi:S.has i/\n=256
 · obtain⟨⟨h0,h1⟩,rfl⟩:=hi;obtain⟨k,rfl⟩:=Int.eq_ofNat_of_zero_le h0;have hk:k<S.n:=by omega
   by_cases ha:S.arm=some 0
   · obtain⟨e1,e2⟩:=ZiE hd' hk hr.len ha;rw[e1,e2];exact Zj6 k A c w F p S h hd' hk ha
   · obtain⟨e1,e2⟩:=ZlW hd' hk hr.len ha;rw[e1,e2];by_cases hm:k∈S.pend
     · exact Znp k A c B l w F p S h hr hc hw hA hd' hk ha hm
     · exact Zno k A c B l w F p S h hr hc hw hA hd' hk ha hm
 · obtain⟨e1,e2⟩:=Znm (i:=i) (l:=l) hd' (by rw[hr.len];exact hi);rw[e1,e2];refine(ZlX i A n c w F p S h hn hd' hi).mono ?_;rintro e w'⟨rfl,rfl⟩;exact⟨rfl,ZaD.same h⟩
def Zp0(S:DS)(K:Nat->Bool)(k j:Nat):Prop:=∃t,t<k/\S.pend[t]?=some j/\K t=true
open Classical in
noncomputable def ZbQ (S:DS) (K:Nat->Bool) (k:Nat):Nat->List Int:=fun j=>if Zp0 S K k j then S.last j else S.safe j
theorem Zf1(S:DS)(K:Nat->Bool):ZbQ S K 0=S.safe:=by
 funext j
 unfold ZbQ;rw[if_neg];rintro⟨t,ht,_⟩;omega
theorem ZlY{S:DS}{K:Nat->Bool}{k:Nat}(h:K k=false):ZbQ S K (k+1)=ZbQ S K k:=by
 funext j
 unfold ZbQ
 have e:Zp0 S K (k+1) j↔Zp0 S K k j:=by
  constructor
  · rintro⟨t,ht,h1,h2⟩;refine⟨t,?_,h1,h2⟩;rcases Nat.lt_or_ge t k with h'|h'
    · exact h'
    · obtain rfl:t=k:=by omega
      rw[h]at h2;cases h2
  · rintro⟨t,ht,h1,h2⟩;exact⟨t,by omega,h1,h2⟩
 by_cases hk:Zp0 S K k j
 · rw[if_pos hk,if_pos (e.2 hk)]
 · rw[if_neg hk,if_neg (fun h'=>hk (e.1 h'))]
theorem Znr{S:DS}{K:Nat->Bool}{k i:Nat}(hp:S.pend[k]?=some i)(h:K k=true):ZbQ S K (k+1) i=S.last i:=by
 unfold ZbQ;rw[if_pos ⟨k,by omega,hp,h⟩]
theorem Zj7{S:DS}{K:Nat->Bool}{k i j:Nat}(hp:S.pend[k]?=some i)(hj:j≠i):ZbQ S K (k+1) j=ZbQ S K k j:=by
 unfold ZbQ
 have e:Zp0 S K (k+1) j↔Zp0 S K k j:=by
  constructor
  · rintro⟨t,ht,h1,h2⟩;refine⟨t,?_,h1,h2⟩;rcases Nat.lt_or_ge t k with h'|h'
    · exact h'
    · obtain rfl:t=k:=by omega
      rw[hp]at h1;injection h1 with h1;exact absurd h1.symm hj
  · rintro⟨t,ht,h1,h2⟩;exact⟨t,by omega,h1,h2⟩
 by_cases hk:Zp0 S K k j
 · rw[if_pos hk,if_pos (e.2 hk)]
 · rw[if_neg hk,if_neg (fun h'=>hk (e.1 h'))]
noncomputable def DS.settled (S:DS) (K:Nat->Bool):DS:={S with safe:=ZbQ S K S.pend.length,last:=ZbQ S K S.pend.length,pend:=[]}
theorem Zle{S:DS}(h:S.Ok)(K:Nat->Bool)(k j:Nat):(ZbQ S K k j).length=256/\Ze (ZbQ S K k j):=by
 unfold ZbQ;split
 · exact h.lastBytes j
 · exact h.safeBytes j
theorem DS.settled_ok{S:DS}(h:S.Ok)(K:Nat->Bool):(S.settled K).Ok:=
 ⟨h.size,Zle h K _,Zle h K _,(fun _ hm=>by cases hm),List.nodup_nil,fun _ _=>rfl⟩
section
variable{w:World}{F:Nat->Prop}{b sb fb:Nat}{left:Int}{pv:Value}{sN fN:Nat}{sf ff:Int->Option Value}{S:DS}
structure Mid(w:World)(F:Nat->Prop)(b sb fb:Nat)(left:Int)(pv:Value)(S:DS)(sN fN:Nat)(ff:Int->Option Value)(K:Nat->Bool)(J:World->Prop)(k:Nat)(wr:World):Prop where
 row:wr.rowIs b 127 7 (ZaH left S.down S.n sb fb pv S.writes)
 rest:∃sf',Zd1 wr (FN F w) sb fb pv S.n (ZbQ S K k) S.last S.pend (sN+k) fN sf' ff
 touch:Zf F w wr
 inv:J wr
theorem Mid.below{K:Nat->Bool}{J:World->Prop}{k:Nat}{w1 w2:World}(hJ:∀w1 w2 row,J w1->w1.grownBy w2 row->(∀x,row=some x->FN F w x)->J w2)(h:Mid w F b sb fb left pv S sN fN ff K J k w1)(hb:Below w1.heap.size w1 w2):Mid w F b sb fb left pv S sN fN ff K J k w2:=by
 obtain⟨sf',hr⟩:=h.rest;exact⟨h.row.of_block (hb.block _ h.row.lt),⟨sf',hr.below hb⟩,h.touch.grow (Zcl hb) (fun x e=>by cases e),hJ _ _ _ h.inv (Zcl hb) (fun x e=>by cases e)⟩
theorem Mid.drew{K:Nat->Bool}{J:World->Prop}{k:Nat}{w1:World}(hJ:∀w1 w2 row,J w1->w1.grownBy w2 row->(∀x,row=some x->FN F w x)->J w2)(h:Mid w F b sb fb left pv S sN fN ff K J k w1):Mid w F b sb fb left pv S sN fN ff K J k w1.drew:=by
 obtain⟨sf',hr⟩:=h.rest;exact⟨h.row,⟨sf',hr.keep (fun _ h _=>h) (fun _ _ _ _=>rfl)⟩,⟨h.touch.os,h.touch.tape,h.touch.output,h.touch.size,h.touch.block⟩,hJ _ _ none h.inv ⟨rfl,rfl,rfl,ZZe _,fun _ _ _=>rfl⟩ (fun x e=>by cases e)⟩
theorem Mid.skip{K:Nat->Bool}{J:World->Prop}{k:Nat}{w1:World}(h:Mid w F b sb fb left pv S sN fN ff K J k w1)(hk:K k=false):Mid w F b sb fb left pv S sN fN ff K J (k+1) w1:=by
 obtain⟨sf',hr⟩:=h.rest;refine⟨h.row,⟨sf',?_⟩,h.touch,h.inv⟩;rw[ZlY hk];exact {hr with safeM:=hr.safeM.mono (by omega)}
theorem Mid.hit{K:Nat->Bool}{J:World->Prop}{k i:Nat}{w1:World}(hJ:∀w1 w2 row,J w1->w1.grownBy w2 row->(∀x,row=some x->FN F w x)->J w2)(hFb:F b)(hok:S.Ok)(hdom:∀i:Nat,i<S.n->((ff i).isSome=true↔i∈S.pend))(hcnt:sN+fN<=S.writes/\S.pend.length<=fN/\S.writes<=9223372036854775807)
 (h:Mid w F b sb fb left pv S sN fN ff K J k w1) (hk:K k=true) (hp:S.pend[k]?=some i) :
 ∃v w2,(Instr.lookup 125 (.map (some fb)) (.int .i64 (i:Int)) false).run prog w1=.ok v w1/\(Instr.mapUpdate 125 (.map (some sb)) (.int .i64 (i:Int)) v).run prog w1=.ok () w2/\Hid (Mid w F b sb fb left pv S sN fN ff K J (k+1) w2):=by
 obtain⟨sf',hr⟩:=h.rest;have hkl:k<S.pend.length:=(ZZb.1 hp).1;have him:i∈S.pend:=List.mem_of_getElem? hp;have hi:=hok.pendLt i him;have hsz:=hok.size;obtain⟨v,hv⟩:=Option.isSome_iff_exists.1 ((hdom i hi).2 him);have q:=hr.freshM.get underlying125 (Za2 w1) (i:=(i:Int)) (by omega) hv;obtain⟨w2,hrun,hm,hg⟩:=hr.safeM.store underlying125 (i:=(i:Int)) (by unfold maxLen;omega) (by omega) v
 have hne:b≠sb:=by
  obtain⟨es,c,h1⟩:=hr.safeM.block;obtain⟨cs,h2,_⟩:=h.row;intro e;rw[e,h1]at h2;cases h2
 refine⟨v,w2,q,hrun,hid ⟨h.row.of_block (hg.block b h.row.lt (fun e=>hne (by injection e))),⟨fun j=>if j=(i:Int)then some v else sf' j,?_⟩,h.touch.grow hg (fun x e=>by injection e with e;rw[<-e];exact hr.Fs),hJ _ _ _ h.inv hg (fun x e=>by injection e with e;rw[<-e];exact hr.Fs)⟩⟩;refine hr.safed hg hm (safe':=ZbQ S K (k+1)) (fun j hj=>?_);by_cases e:j=i
 · subst e;rw[if_pos rfl];right;rw[Znr hp hk];exact hr.freshC j hj v hv
 · rw[if_neg (by omega)];exact .inl ⟨rfl,Zj7 hp e⟩
theorem Mid.fin{K:Nat->Bool}{J:World->Prop}{w1 w2:World}{A:Option Addr}{m c:Nat}(hFb:F b)(hok:S.Ok)(harm:Zlc left S.arm)(hcnt:sN+fN<=S.writes/\S.pend.length<=fN/\S.writes<=9223372036854775807)
 (h:Mid w F b sb fb left (.slice A m c) S sN fN ff K J S.pend.length w1) (hm:Zbl w2 fb 0 (fun _=>none)) (hg:w1.grownBy w2 (some fb)) (hA:A=none->m=0/\c=0) :
 w2.cell? ⟨b,5,none⟩=some (.slice A m c)/\w2.frozen? ⟨b,5,none⟩=false/\Hid (ZaD F w (w2.setCell ⟨b,5,none⟩ (.slice A 0 c)) ⟨b,0,none⟩ (S.settled K)):=by
 obtain⟨sf',hr⟩:=h.rest
 have hne:b≠fb:=by
  obtain⟨es,c,h1⟩:=hr.freshM.block;obtain⟨cs,h2,_⟩:=h.row;intro e;rw[e,h1]at h2;cases h2
 have hrow2:=h.row.of_block (hg.block b h.row.lt (fun e=>hne (by injection e)));have hr2:=hr.freshed hg hm (last':=ZbQ S K S.pend.length) (fun i _ v hv=>by cases hv)
 have hr3:Zd1 w2 (FN F w) sb fb (.slice A 0 c) S.n (ZbQ S K S.pend.length) (ZbQ S K S.pend.length) [] (sN+S.pend.length) 0 sf' (fun _=>none):=hr2.emptied (by
  rcases A with _|ad
  · obtain⟨rfl,rfl⟩:=hA rfl;exact .inl ⟨rfl,rfl⟩
  · exact .inr ⟨ad,m,c,rfl,rfl⟩)
 refine⟨hrow2.cell (i:=5) (by decide),hrow2.frozen 5,hid ?_⟩;refine ZaD.mk' (S:=S.settled K) ((hrow2.set 5 (.slice A 0 c)).congr (ZfF _ _ _ _ _ _ _ _)) (hr3.setCell hrow2 5 _) harm (DS.settled_ok hok K) (fun i _=>?_) ⟨?_,Nat.zero_le _,hcnt.2.2⟩ (.inl hFb) ((h.touch.grow hg (fun x e=>by injection e with e;rw[<-e];exact hr.Ff)).grow (ZU w2 b 5 _) (fun x e=>by injection e with e;rw[<-e];exact .inl hFb))
 · show(none:Option Value).isSome=true↔i∈([]:List Nat)
   simp
 · show sN+S.pend.length+0<=S.writes;omega
end
theorem ZlZ(K:Nat->Bool)(J:World->Prop)(w:World)(F:Nat->Prop)(p:Addr)(S:DS)(h:DAt w F p S)(hJ0:J w)(hJ:∀w1 w2 row,J w1->w1.grownBy w2 row->(∀x,row=some x->FN F w x)->J w2)
 (hf:∀(t:Nat) (w1:World),t<S.pend.length->J w1->Calls prog 198 #[.int .i64 (t:Int)] w1 fun e w2=>e=.returned (.bool (K t))/\Below w1.heap.size w1 w2) :
 Calls prog 80 #[.pointer (some p),.func (.func 198) #[] #[]] w fun e w'=>e=.returned (.tuple #[])/\ZaD F w w' p (S.settled K):=by
 obtain⟨b,sb,fb,left,pv,sN,fN,sf,ff,rfl,hrow,hrest,harm,hok,hdom,hcnt,hFb,hlt,c0,c1,c2,c3,c4,c5,c6⟩:=h.parts;have hnm:=hok.size;have hpl:=Zb8 hok;obtain⟨A,c,rfl,hc,hr⟩:=ZdN hok hrest.pend;have hM0:Mid w F b sb fb left (.slice A S.pend.length c) S sN fN ff K J 0 w:=⟨hrow,⟨sf,by rw[Zf1];exact hrest.keep (fun _ h _=>.inl h) (fun _ _ _ _=>rfl)⟩,Zf.refl F w,hJ0⟩
 have HM0:=hid hM0;have HF:=hid hf;have HJ:=hid hJ;have HD:=hid hdom;clear h hrow hrest hdom hlt hf hJ hr hM0;go_enter func80,ntmps80;go_wp2
 go_loopw[11] (fun i wr=>∃k:Nat,k<=S.pend.length/\i=.int .i64 k/\Hid (Mid w F b sb fb left (.slice A S.pend.length c) S sN fN ff K J k wr)) (fun i _=>S.pend.length-(intOf i).toNat)
 case atStart=>exact⟨0,Nat.zero_le _,rfl,HM0⟩
 case round=>
  obtain⟨k,hk,rfl,hM⟩:=hrel;by_cases hlt:k<S.pend.length
  · have hlt':(k:Int)<(S.pend.length:Int):=by omega
    obtain⟨i,hp⟩:∃i,S.pend[k]?=some i:=⟨_,ZZc hlt⟩
    obtain⟨sf',hrr⟩:=hM.out.rest;obtain⟨A',c',e',_,hri⟩:=ZdN hok hrr.pend;cases e';obtain⟨pb,po,rfl,_,hcell⟩:=hri.2.2 (by omega);have hck:=hcell k hlt
    have hpi:(S.pending[k]?).getD 0=(i:Int):=by
     unfold DS.pending;rw[List.getElem?_map,hp];rfl
    rw[hpi]at hck;have HP:=hid hp;have HC:=hid (HF.out k wr hlt hM.out.inv);clear hrr hcell hri hpi hp;by_cases hKk:K k=true
    · have HKk:=hid hKk;clear hKk;go_wp2_with fail;refine HC.out.mono ?_;rw[HKk.out];rintro e w2⟨rfl,hb2⟩;have hM2:=hM.out.below HJ.out hb2;obtain⟨v,w3,q1,q2,hM3⟩:=Mid.hit (w1:=w2.drew) HJ.out hFb hok HD.out hcnt (hM2.drew HJ.out) HKk.out HP.out;have d3:w2.drew.cell? ⟨b,3,none⟩=some (.map (some sb)):=hM2.row.cell (i:=3) (by decide);have d4:w2.drew.cell? ⟨b,4,none⟩=some (.map (some fb)):=hM2.row.cell (i:=4) (by decide);clear hM2 hb2 hck c0 c1 c2 c3 c4 c5 c6;go_wp2_with fail
      go_region
      all_goals (go_wp2;go_roundw;(case rel=>exact⟨k+1,by omega,by go_num,hM3⟩);(case measure=>simp[intOf];omega))
    · have HKk:=hid (show K k=false by simpa using hKk);clear hKk;go_wp2_with fail;refine HC.out.mono ?_;rw[HKk.out];rintro e w2⟨rfl,hb2⟩;have hM3:=hid ((hM.out.below HJ.out hb2).skip HKk.out);clear hb2 hck c0 c1 c2 c3 c4 c5 c6;go_wp2;go_roundw
      case rel=>exact⟨k+1,by omega,by go_num,hM3⟩
      case measure=>simp[intOf];omega
  · obtain rfl:k=S.pend.length:=by omega
    obtain⟨sf',hrr⟩:=hM.out.rest;have hm:=hrr.freshM;have d4:wr.cell? ⟨b,4,none⟩=some (.map (some fb)):=hM.out.row.cell (i:=4) (by decide)
    have hAn:A=none->S.pend.length=0/\c=0:=fun e=>by
     subst e;rcases hrr.pend.2 with ⟨e1,e2⟩|⟨g,cap,cur,e1,_⟩
     · exact⟨e2,by injection e1⟩
     · cases e1
    obtain⟨w5,hrun5,hm5,hg5⟩:=hm.clear_ underlying125 0;obtain⟨d5,f5,HE⟩:=Mid.fin (w2:=w5) hFb hok harm hcnt hM.out hm5 hg5 hAn;clear hrr hM hm5 hg5 hm c0 c1 c2 c3 c4 c5 c6;rcases A with _|ad
    · obtain⟨h0,rfl⟩:=hAn rfl;have H0:=hid h0;clear h0 hAn;go_wp2
      go_end0
      exact⟨rfl,HE.out⟩
    · clear hAn;go_wp2
      go_end0
      exact⟨rfl,HE.out⟩
theorem Zns(pc:Nat)(K:Nat->Bool)(J:World->Prop)(w:World)(F:Nat->Prop)(p:Addr)(S:DS)(h:DAt w F p S)(hJ0:J w)(hJ:∀w1 w2 row,J w1->w1.grownBy w2 row->(∀x,row=some x->FN F w x)->J w2)
 (hf:∀(t:Nat) (w1:World),t<S.pend.length->J w1->Calls prog 135 #[.int .i64 (t:Int),.pointer (some ⟨pc,0,none⟩)] w1 fun e w2=>e=.returned (.bool (K t))/\Below w1.heap.size w1 w2) :
 Calls prog 80 #[.pointer (some p),.func (.func 135) #[] #[.pointer (some ⟨pc,0,none⟩)]] w fun e w'=>e=.returned (.tuple #[])/\ZaD F w w' p (S.settled K):=by
 obtain⟨b,sb,fb,left,pv,sN,fN,sf,ff,rfl,hrow,hrest,harm,hok,hdom,hcnt,hFb,hlt,c0,c1,c2,c3,c4,c5,c6⟩:=h.parts;have hnm:=hok.size;have hpl:=Zb8 hok;obtain⟨A,c,rfl,hc,hr⟩:=ZdN hok hrest.pend;have hM0:Mid w F b sb fb left (.slice A S.pend.length c) S sN fN ff K J 0 w:=⟨hrow,⟨sf,by rw[Zf1];exact hrest.keep (fun _ h _=>.inl h) (fun _ _ _ _=>rfl)⟩,Zf.refl F w,hJ0⟩
 have HM0:=hid hM0;have HF:=hid hf;have HJ:=hid hJ;have HD:=hid hdom;clear h hrow hrest hdom hlt hf hJ hr hM0;go_enter func80,ntmps80;go_wp2
 go_loopw[11] (fun i wr=>∃k:Nat,k<=S.pend.length/\i=.int .i64 k/\Hid (Mid w F b sb fb left (.slice A S.pend.length c) S sN fN ff K J k wr)) (fun i _=>S.pend.length-(intOf i).toNat)
 case atStart=>exact⟨0,Nat.zero_le _,rfl,HM0⟩
 case round=>
  obtain⟨k,hk,rfl,hM⟩:=hrel;by_cases hlt:k<S.pend.length
  · have hlt':(k:Int)<(S.pend.length:Int):=by omega
    obtain⟨i,hp⟩:∃i,S.pend[k]?=some i:=⟨_,ZZc hlt⟩
    obtain⟨sf',hrr⟩:=hM.out.rest;obtain⟨A',c',e',_,hri⟩:=ZdN hok hrr.pend;cases e';obtain⟨pb,po,rfl,_,hcell⟩:=hri.2.2 (by omega);have hck:=hcell k hlt
    have hpi:(S.pending[k]?).getD 0=(i:Int):=by
     unfold DS.pending;rw[List.getElem?_map,hp];rfl
    rw[hpi]at hck;have HP:=hid hp;have HC:=hid (HF.out k wr hlt hM.out.inv);clear hrr hcell hri hpi hp;by_cases hKk:K k=true
    · have HKk:=hid hKk;clear hKk;go_wp2_with fail;refine HC.out.mono ?_;rw[HKk.out];rintro e w2⟨rfl,hb2⟩;have hM2:=hM.out.below HJ.out hb2;obtain⟨v,w3,q1,q2,hM3⟩:=Mid.hit (w1:=w2.drew) HJ.out hFb hok HD.out hcnt (hM2.drew HJ.out) HKk.out HP.out;have d3:w2.drew.cell? ⟨b,3,none⟩=some (.map (some sb)):=hM2.row.cell (i:=3) (by decide);have d4:w2.drew.cell? ⟨b,4,none⟩=some (.map (some fb)):=hM2.row.cell (i:=4) (by decide);clear hM2 hb2 hck c0 c1 c2 c3 c4 c5 c6;go_wp2_with fail
      go_region
      all_goals (go_wp2;go_roundw;(case rel=>exact⟨k+1,by omega,by go_num,hM3⟩);(case measure=>simp[intOf];omega))
    · have HKk:=hid (show K k=false by simpa using hKk);clear hKk;go_wp2_with fail;refine HC.out.mono ?_;rw[HKk.out];rintro e w2⟨rfl,hb2⟩;have hM3:=hid ((hM.out.below HJ.out hb2).skip HKk.out);clear hb2 hck c0 c1 c2 c3 c4 c5 c6;go_wp2;go_roundw
      case rel=>exact⟨k+1,by omega,by go_num,hM3⟩
      case measure=>simp[intOf];omega
  · obtain rfl:k=S.pend.length:=by omega
    obtain⟨sf',hrr⟩:=hM.out.rest;have hm:=hrr.freshM;have d4:wr.cell? ⟨b,4,none⟩=some (.map (some fb)):=hM.out.row.cell (i:=4) (by decide)
    have hAn:A=none->S.pend.length=0/\c=0:=fun e=>by
     subst e;rcases hrr.pend.2 with ⟨e1,e2⟩|⟨g,cap,cur,e1,_⟩
     · exact⟨e2,by injection e1⟩
     · cases e1
    obtain⟨w5,hrun5,hm5,hg5⟩:=hm.clear_ underlying125 0;obtain⟨d5,f5,HE⟩:=Mid.fin (w2:=w5) hFb hok harm hcnt hM.out hm5 hg5 hAn;clear hrr hM hm5 hg5 hm c0 c1 c2 c3 c4 c5 c6;rcases A with _|ad
    · obtain⟨h0,rfl⟩:=hAn rfl;have H0:=hid h0;clear h0 hAn;go_wp2
      go_end0
      exact⟨rfl,HE.out⟩
    · clear hAn;go_wp2
      go_end0
      exact⟨rfl,HE.out⟩
end Go.Proofs.YtlmkdmdbpopnhaaGreatDoor
