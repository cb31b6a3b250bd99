/- Lemmas. -/
import Derived.Test.YtjbgnopnehgbaaaGreatDoorP34
set_option linter.unusedVariables false
set_option linter.unusedSimpArgs false
set_option maxHeartbeats 8000000
set_option maxRecDepth 100000
namespace Go.Proofs.YtjbgnopnehgbaaaGreatDoor
open Go.RowKit
def dH (l:List UInt8) (D:Int) (f:Bool):List UInt8×Nat×Nat:=if D<1∨200<D then ([],12,0) else t8 l D.toNat f
def ev (f:Bool):Nat:=if f=true then 18 else 1
def aD (l:List UInt8) (D:Int) (f:Bool):List Nd:=post 0 (.nd (ev f) (aH (ag l).1 D.toNat f).1)
def fe (e p:Nat):Value:=.tuple #[.agg #[.slice none 0 0,.slice none 0 0],.agg #[.int .i64 (e:Int),.int .i64 (p:Int)]]
def eS (l:List UInt8) (D:Int) (f:Bool) (w:World) (e:Ending) (w':World):Prop:=
 w.grownBy w' none∧if (dH l D f).2.1≠0 then e=.returned (fe (dH l D f).2.1 (dH l D f).2.2)
  else ∃pt ct pn cn K,e=.returned (.tuple #[.agg #[.slice pt (ag l).1.length ct,.slice pn (aD l D f).length cn],.agg #[.int .i64 0,.int .i64 0]])∧TAt w' pt (ag l).1∧(ag l).1.length≤ct∧aE w' pn (aD l D f) K∧((ag l).1≠[]→∀a,pt=some a→w.heap.size≤a.block)∧(aD l D f≠[]→∀a,pn=some a→w.heap.size≤a.block)∧yf (aD l D f) K (fun k=>w.heap.size≤k)∧(aD l D f).length≤2*(ag l).1.length
theorem vU {X:World} {B:Nat} {ty1 ty2:TypeId} {x0 x1 y0 y1:Value} (hT:X.heap[B]? = some (.cells #[x0,x1] ty1 (0,0))) (hF:X.heap[B+1]? = some (.cells #[y0,y1] ty2 (0,0))) (a b c d:Value):
  ((((X.setCell ⟨B,0,none⟩ a).setCell ⟨B,1,none⟩ b).setCell ⟨B+1,0,none⟩ c).setCell ⟨B+1,1,none⟩ d).heap[B]? = some (.cells #[a,b] ty1 (0,0))∧((((X.setCell ⟨B,0,none⟩ a).setCell ⟨B,1,none⟩ b).setCell ⟨B+1,0,none⟩ c).setCell ⟨B+1,1,none⟩ d).heap[B+1]? = some (.cells #[c,d] ty2 (0,0))∧Fr2 (fun k=>k=B∨k=B+1) X ((((X.setCell ⟨B,0,none⟩ a).setCell ⟨B,1,none⟩ b).setCell ⟨B+1,0,none⟩ c).setCell ⟨B+1,1,none⟩ d):=by
 have q0:=(Fr2.setCell (S:=fun k=>k=B) (Fr2.refl _ X) (g:=B) (j:=0) rfl a).setCell (g:=B) (j:=1) rfl b
 have q1:=(Fr2.setCell (S:=fun k=>k=B+1) (Fr2.refl _ ((X.setCell ⟨B,0,none⟩ a).setCell ⟨B,1,none⟩ b)) (g:=B+1) (j:=0) rfl c).setCell (g:=B+1) (j:=1) rfl d
 refine⟨q1.keep (ab (i:=1) (u:=b) (ab (i:=0) (u:=a) hT)) (by omega),ab (i:=1) (u:=d) (ab (i:=0) (u:=c) (q0.keep hF (by omega))),?_⟩
 exact((((Fr2.refl _ X).setCell (.inl rfl) a).setCell (.inl rfl) b).setCell (.inr rfl) c).setCell (.inr rfl) d
theorem XAt.init {T:List Tok} {D:Nat} {w2 w3:World} {b bb:Nat} {v1 v2 v3 v4:Value} (hb:w2.heap.size=b) (yJ:vI w2 bb T 0 [] (.slice none 0 0)) (As:bb<b) (iO:0<T.length) (hg:(w2.alloc (.cells #[.pointer (some ⟨bb,0,none⟩),v1,v2,v3,v4,.int .i64 (D:Int),.int .i64 0,.bool false,.int .i64 0,.int .i64 0] 107)).grownBy w3 none):
  XAt ((((w3.setCell ⟨b,1,none⟩ (.int .i64 ((an T az).kind:Int))).setCell ⟨b,2,none⟩ (aw (an T az).lead)).setCell ⟨b,3,none⟩ (aw (an T az).text)).setCell ⟨b,4,none⟩ (.int .i64 ((an T az).pos:Int))) b bb T D 0 az 0 [] (.slice none 0 0) (fun k=>b<k)∧Fr2 (ez b) w3 ((((w3.setCell ⟨b,1,none⟩ (.int .i64 ((an T az).kind:Int))).setCell ⟨b,2,none⟩ (aw (an T az).lead)).setCell ⟨b,3,none⟩ (aw (an T az).text)).setCell ⟨b,4,none⟩ (.int .i64 ((an T az).pos:Int))):=by
 have hf:Fr2 (ez b) w3 ((((w3.setCell ⟨b,1,none⟩ (.int .i64 ((an T az).kind:Int))).setCell ⟨b,2,none⟩ (aw (an T az).lead)).setCell ⟨b,3,none⟩ (aw (an T az).text)).setCell ⟨b,4,none⟩ (.int .i64 ((an T az).pos:Int))):=((((Fr2.refl _ _).setCell (bh b) _).setCell (bh b) _).setCell (bh b) _).setCell (bh b) _
 have eN:=heap_alloc_new w2 (.cells #[.pointer (some ⟨bb,0,none⟩),v1,v2,v3,v4,.int .i64 (D:Int),.int .i64 0,.bool false,.int .i64 0,.int .i64 0] 107)
 rw [hb] at eN
 have eN:=bx hg eN
 have hlt:=j3 eN
 have dC:=ab (i:=4) (u:=.int .i64 ((an T az).pos:Int)) (ab (i:=3) (u:=aw (an T az).text) (ab (i:=2) (u:=aw (an T az).lead) (ab (i:=1) (u:=.int .i64 ((an T az).kind:Int)) eN)))
 obtain⟨pt,ct,K,hB⟩:=(yJ.kept (World.grownBy_alloc w2 _ none)).kept hg
 have tN:kX w3 bb T 0 [] (.slice none 0 0) (fun k=>b<k):=⟨pt,ct,K,hB,fun i x hx=>by simp at hx⟩
 refine⟨⟨dC.trans rfl,tN.keptF hf (fun k hk e=>by unfold ez at e;omega) (fun k e=>(by cases e)) (fun k hk e=>by unfold ez at e;omega) (fun _ _ h=>h),fun k hk=>hk,fun k hk=>?_,As,fun k e=>(by cases e),iO,Nat.zero_le _⟩,hf⟩
 exact zn (zn hlt hf.size) hk
theorem GAt.keptB {s:Nat} {S:Nat→Prop} {w w':World} {p:Option Addr} {l:List (List Value)} (h:GAt s w p l) (hf:Fr2 S w w') (hS:l≠[]→∀a,p=some a→¬S a.block):GAt s w' p l:=GAt.keptS h hf hS
theorem mz {l:List UInt8} {D:Int} {f:Bool} {w w':World} {n p:Nat} (h:(dH l D f).2=(n,p)) (hn:n≠0) (hg:w.grownBy w' none):eS l D f w (.returned (fe n p)) w':=by
 refine⟨hg,?_⟩
 rw [h,if_pos hn]
theorem px {l:List UInt8} {D:Int} {f:Bool} (h1:¬(D<1∨200<D)) (hl:l.length≤65536) (h:(ag l).2.1=0):(dH l D f).2=if (aH (ag l).1 D.toNat f).2.e=0 then (0,0) else ((aH (ag l).1 D.toNat f).2.e,(aH (ag l).1 D.toNat f).2.pos):=by
 unfold dH
 rw [if_neg h1,C7 hl h]
 split<;>rfl
theorem y8 {l:List UInt8} {D:Int} {f:Bool} (h1:¬(D<1∨200<D)) (hl:l.length≤65536) (h:(ag l).2.1≠0):(dH l D f).2=((ag l).2.1,(ag l).2.2):=by
 unfold dH t8
 rw [if_neg h1,if_neg (by omega),if_pos h]
theorem qr (t:Tr):∀(b:Nat) (x:Nd),x∈post b t→x.kids.length≤(post b t).length:=by
 have key:∀n:Nat,(∀t:Tr,szR t≤n→∀b x,x∈post b t→x.kids.length≤szR t)∧(∀l:List Tr,dI l≤n→∀b x,x∈dT b l→x.kids.length≤dI l):=by
  intro n
  induction n with
  | zero=>
    refine⟨fun t h=>absurd (kQ t) (by omega),fun l h b x hx=>?_⟩
    cases l with
    | nil=>simp [dT] at hx
    | cons t l=>have:=kQ t;simp only [dI] at h;omega
  | succ n ih=>
    have ht:∀t:Tr,szR t≤n+1→∀b x,x∈post b t→x.kids.length≤szR t:=by
     intro t h b x hx
     cases t with
     | lf i=>simp [post] at hx;subst hx;simp
     | nd k l=>
       simp only [szR] at h ⊢
       simp only [post,List.mem_append,List.mem_singleton] at hx
       have bB:l.length≤dI l:=by
        clear h hx
        induction l with
        | nil=>exact Nat.le_refl _
        | cons t l ih2=>have:=kQ t;simp only [dI,List.length_cons];omega
       rcases hx with hx | rfl
       ·have:=ih.2 l (by omega) b x hx;omega
       ·rw [Bc];omega
    refine⟨ht,fun l=>?_⟩
    induction l with
    | nil=>intro h b x hx;simp [dT] at hx
    | cons t l ih2=>
      intro h b x hx
      simp only [dI] at h ⊢
      simp only [dT,List.mem_append] at hx
      rcases hx with hx | hx
      ·have:=ht t (by omega) b x hx;omega
      ·have:=ih2 (by omega) (b+szR t) x hx;omega
 intro b x hx
 rw [mA]
 exact(key (szR t)).1 t (Nat.le_refl _) b x hx
theorem yV (s:ByteArray) (D:Int) (w:World) (hs:s.size≤25000) (cg:cM w):Calls Tryz.prog 17 #[.string s,.int .i64 D,.func (.func 18) #[] #[]] w (eS s.data.toList D false w):=by
 have Wn:=zh (heap_alloc_new w (.cells #[.slice none 0 0,.slice none 0 0] 42))
 obtain⟨B,hB⟩:∃B,w.heap.size=B:=⟨_,rfl⟩
 have HB:=zh hB
 have lO:Hid (w.grownBy ((w.alloc (.cells #[.slice none 0 0,.slice none 0 0] 42)).alloc (.cells #[.int .i64 0,.int .i64 0] 44)) none):=zh (ae (ae (ad _ _) _) _)
 have Un:((w.alloc (.cells #[.slice none 0 0,.slice none 0 0] 42)).alloc (.cells #[.int .i64 0,.int .i64 0] 44)).heap[B]? = some (.cells #[.slice none 0 0,.slice none 0 0] 42 (0,0)):=by rw [←hB];exact bx (World.grownBy_alloc _ _ none) (heap_alloc_new w _)
 have Er:((w.alloc (.cells #[.slice none 0 0,.slice none 0 0] 42)).alloc (.cells #[.int .i64 0,.int .i64 0] 44)).heap[B+1]? = some (.cells #[.int .i64 0,.int .i64 0] 44 (0,0)):=by
  have h9:=heap_alloc_new (w.alloc (.cells #[.slice none 0 0,.slice none 0 0] 42)) (.cells #[.int .i64 0,.int .i64 0] 44)
  rw [show(w.alloc (.cells #[.slice none 0 0,.slice none 0 0] 42)).heap.size=B+1 by simp [hB]] at h9
  exact h9
 obtain⟨t0,t1,t2⟩:=ah Un
 obtain⟨f0,f1,f2⟩:=ah Er
 have lI:=zh Un;have rV:=zh Er
 have ZT:((w.alloc (.cells #[.slice none 0 0,.slice none 0 0] 42)).alloc (.cells #[.int .i64 0,.int .i64 0] 44)).heap.size=B+2:=by simp [hB]
 have pO:=zh ZT
 clear Un Er Wn ZT
 obtain⟨l,hl⟩:∃l,s.data.toList=l:=⟨_,rfl⟩
 have ky:Hid (l.length≤25000):=zh (by rw [←hl,aM];exact hs)
 by_cases pq:D<1∨200<D
 ·have HA:Hid ((dH l D false).2=(12,0)):=zh (by unfold dH;rw [if_pos pq])
  have lM:Hid (∀w',w.grownBy w' none→eS l D false w (.returned (fe 12 0)) w'):=zh (fun w' hg=>mz HA.out (by decide) hg)
  rw [hl]
  clear hs cg hl hB t0 t1 t2 f0 f1 f2
  by_cases h1:D<1
  ·have e1:decide (D<1)=true:=zd h1
   clear pq h1
   go_enter Tryz.func17,Tryz.ntmps17
   go_wp2_with fail
   refine bodyPost_ret (v:=fe 12 0) (by simp [results,Tryz.results17,go_sem,fe]) rfl ?_
   exact lM.out _ (ae (ae (ad _ _) _) _)
  ·have e1:decide (D<1)=false:=decide_eq_false h1
   have e2:decide (200<D)=true:=zd (by omega)
   clear pq h1
   go_enter Tryz.func17,Tryz.ntmps17
   go_wp2_with fail
   refine bodyPost_ret (v:=fe 12 0) (by simp [results,Tryz.results17,go_sem,fe]) rfl ?_
   exact lM.out _ (ae (ae (ad _ _) _) _)
 ·obtain⟨d,rfl⟩:∃d:Nat,D=(d:Int):=⟨D.toNat,by omega⟩
  have e1:decide (d<1)=false:=decide_eq_false (by omega)
  have sl:decide ((d:Int)<1)=false:=decide_eq_false (by omega)
  have e2:decide (200<d)=false:=decide_eq_false (by omega)
  have DB:decide ((200:Int)<(d:Int))=false:=decide_eq_false (by omega)
  have H4:=zh pq
  have HD:Hid (d≤200):=zh (by omega)
  have OW:=zh (fun W (h:cM W)=>TB s W (by omega) h)
  have gf:=zh (cg.kept lO.out)
  rw [hl] at OW ⊢
  clear hs cg hl pq
  go_enter Tryz.func17,Tryz.ntmps17
  go_wp2_with fail
  try rw [hB]
  refine(OW.out _ gf.out).mono ?_
  rintro e w1 ⟨bI,he⟩
  rw [if_neg (by have:=ky.out;omega)] at he
  have cZ:=zh (aa lO.out bI)
  have lI:=zh (bx bI lI.out);have rV:=zh (bx bI rV.out)
  have J5:Hid (B+2≤w1.heap.size):=zh (by have h1:=bI.size;have h2:=pO.out;omega)
  clear bI OW gf lO t0 t1 t2 f0 f1 f2 hB
  by_cases hlx:(ag l).2.1≠0
  ·rw [if_pos hlx] at he
   subst he
   have HA:Hid ((dH l (d:Int) false).2=((ag l).2.1,(ag l).2.2)):=zh (y8 H4.out (by have:=ky.out;omega) hlx)
   have lM:Hid (∀w',w.grownBy w' none→eS l (d:Int) false w (.returned (fe (ag l).2.1 (ag l).2.2)) w'):=zh (fun w' hg=>mz HA.out hlx hg)
   obtain⟨E,hE⟩:∃E,(ag l).2.1=E:=⟨_,rfl⟩
   obtain⟨P,hP⟩:∃P,(ag l).2.2=P:=⟨_,rfl⟩
   rw [hE] at hlx
   rw [hE,hP] at lM ⊢
   have e3:(E != 0)=true:=bne_iff_ne.2 hlx
   have VU:((E:Int) != 0)=true:=bne_iff_ne.2 (by omega)
   obtain⟨t0,t1,t2⟩:=ah (bx (World.grownBy_alloc w1 (.cells #[.int .i64 (E:Int),.int .i64 (P:Int)] 44) none) lI.out)
   obtain⟨f0,f1,f2⟩:=ah (bx (World.grownBy_alloc w1 (.cells #[.int .i64 (E:Int),.int .i64 (P:Int)] 44) none) rV.out)
   have vE:=ah (heap_alloc_new w1 (.cells #[.int .i64 (E:Int),.int .i64 (P:Int)] 44))
   have En:=J5.out
   clear hE hP hlx HA
   go_wp2_with fail
   go_region
   all_goals
    obtain⟨iE,ee,gN⟩:=vU (bx (World.grownBy_alloc w1 (.cells #[.int .i64 (E:Int),.int .i64 (P:Int)] 44) none) lI.out) (bx (World.grownBy_alloc w1 (.cells #[.int .i64 (E:Int),.int .i64 (P:Int)] 44) none) rV.out) (.slice none 0 0) (.slice none 0 0) (.int .i64 (E:Int)) (.int .i64 (P:Int))
    obtain⟨k0,k1,-⟩:=ah (bx (aF (ad _ none)) iE)
    obtain⟨m0,m1,-⟩:=ah (bx (aF (ad _ none)) ee)
    have ZE:=zh (aF (Fr2.after (ae cZ.out _) gN (fun j hj=>by have:=HB.out;rcases hj with h | h<;>omega)))
    clear iE ee gN t0 t1 t2 f0 f1 f2 vE En
    go_wp2_with fail
    refine bodyPost_ret (v:=fe E P) (by simp [results,Tryz.results17,go_sem,k0,k1,m0,m1,fe]) rfl (lM.out _ ZE.out)
  ·rw [if_neg hlx] at he
   have oK:(ag l).2.1=0:=by omega
   obtain⟨q,c,rfl,hT,DX,-⟩:=he
   have rW:=zh (Bt oK (by have:=ky.out;omega))
   have zH:=px (f:=false) H4.out (by have:=ky.out;omega) oK
   rw [Int.toNat_natCast] at zH
   have bl:=(oV oK).2
   have IC:Hid (∀w' pt ct pn cn K,(aH (ag l).1 d false).2.e=0→w.grownBy w' none→TAt w' pt (ag l).1→(ag l).1.length≤ct→aE w' pn (post 0 (.nd (ev false) (aH (ag l).1 d false).1)) K→((ag l).1≠[]→∀a,pt=some a→w.heap.size≤a.block)→(post 0 (.nd (ev false) (aH (ag l).1 d false).1)≠[]→∀a,pn=some a→w.heap.size≤a.block)→yf (post 0 (.nd (ev false) (aH (ag l).1 d false).1)) K (fun k=>w.heap.size≤k)→(post 0 (.nd (ev false) (aH (ag l).1 d false).1)).length≤2*(ag l).1.length→eS l (d:Int) false w (.returned (.tuple #[.agg #[.slice pt (ag l).1.length ct,.slice pn (post 0 (.nd (ev false) (aH (ag l).1 d false).1)).length cn],.agg #[.int .i64 0,.int .i64 0]])) w'):=zh (fun w' pt ct pn cn K h1 h2 h3 h4 h5 h6 h7 h8 h9=>by
    refine⟨h2,?_⟩
    rw [zH,if_pos h1,if_neg (by decide)]
    exact⟨pt,ct,pn,cn,K,rfl,h3,h4,h5,h6,h7,h8,h9⟩)
   have lM:Hid (∀w',(aH (ag l).1 d false).2.e≠0→w.grownBy w' none→eS l (d:Int) false w (.returned (fe (aH (ag l).1 d false).2.e (aH (ag l).1 d false).2.pos)) w'):=zh (fun w' h1 h2=>mz (by rw [zH,if_neg h1]) h1 h2)
   obtain⟨T,Jy⟩:∃T,(ag l).1=T:=⟨_,rfl⟩
   rw [Jy] at IC lM rW hT bl DX ⊢
   have iO:0<T.length:=List.length_pos_iff.2 bl
   have UE:=zh iO
   have Bh:T[0]? = some (an T az):=by
    unfold an
    show T[0]? = some (T[0]?.getD _)
    rw [List.getElem?_eq_getElem iO];rfl
   have qY:=zh hT;have DP:=zh bl
   have sF:=zh (fun W h=>ou T q c W (by have:=rW.out.len;omega) rW.out.short h)
   have Jo:=zh (fun (bb:Nat) W h=>DO bb T 0 [] (.slice none 0 0) (an T az) W (by have:=rW.out.len;omega) (Nat.zero_le _) rW.out.short (by rw [Nat.zero_min];exact Bh) h)
   have OO:=zh (fun (b bb:Nat) (W:World) h=>vJ b bb T d rW.out HD.out az [] (.slice none 0 0) (fun k=>b<k) W rfl h)
   have Rd:=zh (fun (bb u:Nat) (N:List Nd) (vn:Value) W h1 h2 h3=>AE bb T u N vn W (by have:=rW.out.len;omega) rW.out.short h1 h2 h3)
   have Jw:Hid (aH T d false=aW T (NT T d 0).expr az):=zh (by unfold aH;(first | rfl | (simp;rfl)))
   rw [Jw.out] at IC lM
   obtain⟨r,hr⟩:∃r,aW T (NT T d 0).expr az=r:=⟨_,rfl⟩
   rw [hr] at IC lM OO
   obtain⟨m,hm⟩:∃m,T.length=m:=⟨_,rfl⟩
   have AZ:=zh hm
   rw [hm] at IC sF ⊢
   have ns:=zh (bx (World.grownBy_alloc w1 (.cells #[.int .i64 0,.int .i64 0] 44) none) lI.out)
   have es:=zh (bx (World.grownBy_alloc w1 (.cells #[.int .i64 0,.int .i64 0] 44) none) rV.out)
   have cz:=zh (ae cZ.out (.cells #[.int .i64 0,.int .i64 0] 44))
   have vE:=ah (heap_alloc_new w1 (.cells #[.int .i64 0,.int .i64 0] 44))
   clear zH hlx oK Jy hT DX bl iO hr hm Jw Bh
   go_wp2_with fail
   refine(sF.out _ (qY.out.kept (World.grownBy_alloc w1 _ none))).mono ?_
   rintro e w2 ⟨bb,rfl,As,yJ,bT⟩
   have eg:=zh (aa cz.out bT)
   have VS:=zh (bx bT ns.out);have jp:=zh (bx bT es.out)
   have CN:=zh yJ
   obtain⟨b,Ez⟩:∃b,w2.heap.size=b:=⟨_,rfl⟩
   have WU:=zh Ez
   have Kc:bb<b:=by
    obtain⟨pt,ct,K,hB⟩:=yJ
    rw [←Ez];exact j3 hB.box
   have fL:=zh Kc
   have qk:Hid (B+2≤bb):=zh (by
     have h1:=J5.out;have h2:(w1.alloc (.cells #[.int .i64 0,.int .i64 0] 44)).heap.size=w1.heap.size+1:=by simp
     omega)
   obtain⟨d0,d1,d2,d3,d4,d5,d6,d7,d8,d9,lK⟩:=bZ (show(w2.alloc (.cells #[.pointer (some ⟨bb,0,none⟩),.int .i64 0,.string ⟨#[]⟩,.string ⟨#[]⟩,.int .i64 0,.int .i64 (d:Int),.int .i64 0,.bool false,.int .i64 0,.int .i64 0] 107)).heap[b]? = some (.cells #[.pointer (some ⟨bb,0,none⟩),.int .i64 0,.string ⟨#[]⟩,.string ⟨#[]⟩,.int .i64 0,.int .i64 (d:Int),.int .i64 0,.bool false,.int .i64 0,.int .i64 0] 107 (0,0)) from by rw [←Ez];exact heap_alloc_new w2 _)
   clear vE sF As yJ bT Kc Ez
   go_wp2_with fail
   try rw [WU.out]
   refine(Jo.out bb _ (CN.out.kept (World.grownBy_alloc w2 _ none))).mono ?_
   rintro e w3 ⟨rfl,fM⟩
   have lP:=fun (v1 v2 v3 v4:Value) (h:(w2.alloc (.cells #[.pointer (some ⟨bb,0,none⟩),v1,v2,v3,v4,.int .i64 (d:Int),.int .i64 0,.bool false,.int .i64 0,.int .i64 0] 107)).grownBy w3 none)=>XAt.init WU.out CN.out fL.out UE.out h
   have lP:=lP _ _ _ _ fM
   have lw:=zh (aa (ae eg.out _) fM)
   have ZH:=zh (bx fM (bx (World.grownBy_alloc w2 _ none) VS.out));have vj:=zh (bx fM (bx (World.grownBy_alloc w2 _ none) jp.out))
   have d0:=fM.cell d0 (by simp);have d1:=fM.cell d1 (by simp);have d2:=fM.cell d2 (by simp);have d3:=fM.cell d3 (by simp);have d4:=fM.cell d4 (by simp)
   have L1:=bx fM (show(w2.alloc (.cells #[.pointer (some ⟨bb,0,none⟩),.int .i64 0,.string ⟨#[]⟩,.string ⟨#[]⟩,.int .i64 0,.int .i64 (d:Int),.int .i64 0,.bool false,.int .i64 0,.int .i64 0] 107)).heap[b]? = some (.cells #[.pointer (some ⟨bb,0,none⟩),.int .i64 0,.string ⟨#[]⟩,.string ⟨#[]⟩,.int .i64 0,.int .i64 (d:Int),.int .i64 0,.bool false,.int .i64 0,.int .i64 0] 107 (0,0)) from by rw [←WU.out];exact heap_alloc_new w2 _)
   obtain⟨d0,d1,d2,d3,d4,d5,d6,d7,d8,d9,lK⟩:=bZ L1
   obtain⟨t,ht⟩:∃t,an T az=t:=⟨_,rfl⟩
   rw [ht] at lP ⊢
   unfold Iw
   unfold aw at lP ⊢
   obtain⟨xl,zS⟩:∃xl:ByteArray,(⟨t.lead.toArray⟩:ByteArray)=xl:=⟨_,rfl⟩
   obtain⟨xt,Bj⟩:∃xt:ByteArray,(⟨t.text.toArray⟩:ByteArray)=xt:=⟨_,rfl⟩
   rw [zS,Bj] at lP ⊢
   obtain⟨tk,qK⟩:∃tk,t.kind=tk:=⟨_,rfl⟩
   obtain⟨tp,rR⟩:∃tp,t.pos=tp:=⟨_,rfl⟩
   rw [qK,rR] at lP ⊢
   have vg:=zh lP
   clear lP fM L1 Jo CN ht zS Bj qK rR
   go_wp2_with fail
   refine(OO.out _ _ _ vg.out.1).mono ?_
   rintro e w5 ⟨x,u,N',bY,rfl,WQ,DN,hu5,hn5⟩
   have Ul:=zh WQ;have HU5:=zh hu5;have HN5:=zh hn5
   have tN:∀k,k<w3.heap.size→k≠b→k≠bb→w5.heap[k]? = w3.heap[k]? := fun k h1 h2 h3=>by
    rw [DN.fr.block k (zn h1 vg.out.2.size) (by rintro(e | e | e);exact h2 e;exact h3 e;cases e),vg.out.2.block k h1 (fun e=>h2 e)]
   have TC:=zh ((tN B (j3 ZH.out) (by have:=fL.out;have:=qk.out;omega) (by have:=qk.out;omega)).trans ZH.out)
   have zl:=zh ((tN (B+1) (j3 vj.out) (by have:=fL.out;have:=qk.out;omega) (by have:=qk.out;omega)).trans vj.out)
   have iD:Hid (w.grownBy w5 none):=zh (Fr2.after (Fr2.after lw.out vg.out.2 (fun j hj=>by have h1:j=b:=hj;have:=fL.out;have:=qk.out;have:=HB.out;omega)) DN.fr (fun j hj=>by have:=fL.out;have:=qk.out;have:=HB.out;rcases hj with h | h | h;omega;omega;cases h))
   obtain⟨d0,d1,d2,d3,d4,d5,d6,d7,d8,d9,lK⟩:=bZ WQ.box
   clear WQ DN hu5 hn5 tN vg OO
   by_cases vp:r.2.e=0
   ·have e3:((r.2.e:Int) != 0)=false:=by rw [vp];rfl
    have VU:(r.2.e != 0)=false:=by rw [vp];rfl
    have UH:Hid (N'=post 0 (.nd (ev false) r.1)):=zh (by rw [HN5.out vp];simp [dT,ev])
    have Hx:=zh vp
    have bB:N'.length≤100000:=by have h1:=Ul.out.few;have h2:=HU5.out;have h3:=rW.out.len;omega
    have bL:=zh (Rd.out bb u N' bY w5 bB (fun y hy=>by rw [UH.out] at hy bB;exact Nat.le_trans (qr _ _ _ hy) bB) Ul.out.bld.bld)
    rw [vp] at d8
    clear vp bB Rd
    go_wp2_with fail
    refine bL.out.mono ?_
    rintro e w6 ⟨dk,pt,ct,pn,cn,K,rfl,eU,Gf,kF,kM,dK,fI⟩
    have Yh:=zh (bx dk TC.out);have NX:=zh (bx dk zl.out)
    have dQ:=zh (aa iD.out dk)
    rw [UH.out] at kF dK fI ⊢
    obtain⟨iE,ee,gN⟩:=vU Yh.out NX.out (.slice pt T.length ct) (.slice pn (post 0 (.nd (ev false) r.1)).length cn) (.int .i64 0) (.int .i64 0)
    have hB5:B+2≤w5.heap.size:=by have:=j3 zl.out;omega
    have Mr:=eU.keptF gN (fun h0 a ha e=>by have:=kM h0 a ha;rcases e with e | e<;>omega)
    have Oi:aE ((((w6.setCell ⟨B,0,none⟩ (.slice pt T.length ct)).setCell ⟨B,1,none⟩ (.slice pn (post 0 (.nd (ev false) r.1)).length cn)).setCell ⟨B+1,0,none⟩ (.int .i64 0)).setCell ⟨B+1,1,none⟩ (.int .i64 0)) pn (post 0 (.nd (ev false) r.1)) K:=⟨GAt.keptB kF.1 gN (fun h0 a ha e=>by have:=dK (fun h=>h0 (by rw [h];rfl)) a ha;rcases e with e | e<;>omega),fun i y hy=>(kF.2 i y hy).keptF gN (fun h0 a ha e=>by have:=fI i y hy (eB h0) a ha;rcases e with e | e<;>omega)⟩
    have HQ:=zh (IC.out _ pt ct pn cn K Hx.out (Fr2.after dQ.out gN (fun j hj=>by have:=HB.out;rcases hj with h | h<;>omega)) Mr (by rw [←AZ.out];exact Gf) Oi (fun h0 a ha=>Nat.le_trans iD.out.size (kM h0 a ha)) (fun h0 a ha=>Nat.le_trans iD.out.size (dK h0 a ha)) (fun i y hy hn a ha=>Nat.le_trans iD.out.size (fI i y hy hn a ha)) (by rw [←UH.out,←AZ.out];have h1:=Ul.out.few;have h2:=HU5.out;omega))
    obtain⟨t0,t1,t2⟩:=ah Yh.out
    obtain⟨f0,f1,f2⟩:=ah NX.out
    obtain⟨k0,k1,-⟩:=ah iE
    obtain⟨m0,m1,-⟩:=ah ee
    rw [AZ.out] at k0 k1 m0 m1 HQ ⊢
    clear iE ee gN eU Gf kF kM dK fI Mr Oi dk d0 d1 d2 d3 d4 d5 d6 d7 d8 d9 lK hB5
    go_wp2_with fail
    refine bodyPost_ret (v:=.tuple #[.agg #[.slice pt m ct,.slice pn (post 0 (.nd (ev false) r.1)).length cn],.agg #[.int .i64 0,.int .i64 0]]) (by simp [results,Tryz.results17,go_sem,k0,k1,m0,m1]) rfl HQ.out
   ·have e3:((r.2.e:Int) != 0)=true:=bne_iff_ne.2 (by omega)
    have VU:(r.2.e != 0)=true:=bne_iff_ne.2 vp
    have Hx:=zh vp
    obtain⟨E,hE⟩:∃E,r.2.e=E:=⟨_,rfl⟩
    obtain⟨P,hP⟩:∃P,r.2.pos=P:=⟨_,rfl⟩
    rw [hE] at e3 VU d8
    rw [hP] at d9
    rw [hE,hP] at lM
    obtain⟨t0,t1,t2⟩:=ah TC.out
    obtain⟨f0,f1,f2⟩:=ah zl.out
    have HRE:Hid (E≠0):=zh (by rw [←hE];exact vp)
    clear vp Hx hE hP d0 d1 d2 d3 d4 d5 d6 d7 Rd IC
    go_wp2_with fail
    go_region
    all_goals
     obtain⟨iE,ee,gN⟩:=vU TC.out zl.out (.slice none 0 0) (.slice none 0 0) (.int .i64 (E:Int)) (.int .i64 (P:Int))
     obtain⟨k0,k1,-⟩:=ah (bx (aF (ad _ none)) iE)
     obtain⟨m0,m1,-⟩:=ah (bx (aF (ad _ none)) ee)
     have HQ:=zh (lM.out _ HRE.out (aF (Fr2.after iD.out gN (fun j hj=>by have:=HB.out;rcases hj with h | h<;>omega))))
     clear iE ee gN t0 t1 t2 f0 f1 f2 d8 d9 lK
     go_wp2_with fail
     refine bodyPost_ret (v:=fe E P) (by simp [results,Tryz.results17,go_sem,k0,k1,m0,m1,fe]) rfl HQ.out
theorem Dz (s:ByteArray) (D:Int) (w:World) (hs:s.size≤25000) (cg:cM w):Calls Tryz.prog 17 #[.string s,.int .i64 D,.func (.func 57) #[] #[]] w (eS s.data.toList D true w):=by
 have Wn:=zh (heap_alloc_new w (.cells #[.slice none 0 0,.slice none 0 0] 42))
 obtain⟨B,hB⟩:∃B,w.heap.size=B:=⟨_,rfl⟩
 have HB:=zh hB
 have lO:Hid (w.grownBy ((w.alloc (.cells #[.slice none 0 0,.slice none 0 0] 42)).alloc (.cells #[.int .i64 0,.int .i64 0] 44)) none):=zh (ae (ae (ad _ _) _) _)
 have Un:((w.alloc (.cells #[.slice none 0 0,.slice none 0 0] 42)).alloc (.cells #[.int .i64 0,.int .i64 0] 44)).heap[B]? = some (.cells #[.slice none 0 0,.slice none 0 0] 42 (0,0)):=by rw [←hB];exact bx (World.grownBy_alloc _ _ none) (heap_alloc_new w _)
 have Er:((w.alloc (.cells #[.slice none 0 0,.slice none 0 0] 42)).alloc (.cells #[.int .i64 0,.int .i64 0] 44)).heap[B+1]? = some (.cells #[.int .i64 0,.int .i64 0] 44 (0,0)):=by
  have h9:=heap_alloc_new (w.alloc (.cells #[.slice none 0 0,.slice none 0 0] 42)) (.cells #[.int .i64 0,.int .i64 0] 44)
  rw [show(w.alloc (.cells #[.slice none 0 0,.slice none 0 0] 42)).heap.size=B+1 by simp [hB]] at h9
  exact h9
 obtain⟨t0,t1,t2⟩:=ah Un
 obtain⟨f0,f1,f2⟩:=ah Er
 have lI:=zh Un;have rV:=zh Er
 have ZT:((w.alloc (.cells #[.slice none 0 0,.slice none 0 0] 42)).alloc (.cells #[.int .i64 0,.int .i64 0] 44)).heap.size=B+2:=by simp [hB]
 have pO:=zh ZT
 clear Un Er Wn ZT
 obtain⟨l,hl⟩:∃l,s.data.toList=l:=⟨_,rfl⟩
 have ky:Hid (l.length≤25000):=zh (by rw [←hl,aM];exact hs)
 by_cases pq:D<1∨200<D
 ·have HA:Hid ((dH l D true).2=(12,0)):=zh (by unfold dH;rw [if_pos pq])
  have lM:Hid (∀w',w.grownBy w' none→eS l D true w (.returned (fe 12 0)) w'):=zh (fun w' hg=>mz HA.out (by decide) hg)
  rw [hl]
  clear hs cg hl hB t0 t1 t2 f0 f1 f2
  by_cases h1:D<1
  ·have e1:decide (D<1)=true:=zd h1
   clear pq h1
   go_enter Tryz.func17,Tryz.ntmps17
   go_wp2_with fail
   refine bodyPost_ret (v:=fe 12 0) (by simp [results,Tryz.results17,go_sem,fe]) rfl ?_
   exact lM.out _ (ae (ae (ad _ _) _) _)
  ·have e1:decide (D<1)=false:=decide_eq_false h1
   have e2:decide (200<D)=true:=zd (by omega)
   clear pq h1
   go_enter Tryz.func17,Tryz.ntmps17
   go_wp2_with fail
   refine bodyPost_ret (v:=fe 12 0) (by simp [results,Tryz.results17,go_sem,fe]) rfl ?_
   exact lM.out _ (ae (ae (ad _ _) _) _)
 ·obtain⟨d,rfl⟩:∃d:Nat,D=(d:Int):=⟨D.toNat,by omega⟩
  have e1:decide (d<1)=false:=decide_eq_false (by omega)
  have sl:decide ((d:Int)<1)=false:=decide_eq_false (by omega)
  have e2:decide (200<d)=false:=decide_eq_false (by omega)
  have DB:decide ((200:Int)<(d:Int))=false:=decide_eq_false (by omega)
  have H4:=zh pq
  have HD:Hid (d≤200):=zh (by omega)
  have OW:=zh (fun W (h:cM W)=>TB s W (by omega) h)
  have gf:=zh (cg.kept lO.out)
  rw [hl] at OW ⊢
  clear hs cg hl pq
  go_enter Tryz.func17,Tryz.ntmps17
  go_wp2_with fail
  try rw [hB]
  refine(OW.out _ gf.out).mono ?_
  rintro e w1 ⟨bI,he⟩
  rw [if_neg (by have:=ky.out;omega)] at he
  have cZ:=zh (aa lO.out bI)
  have lI:=zh (bx bI lI.out);have rV:=zh (bx bI rV.out)
  have J5:Hid (B+2≤w1.heap.size):=zh (by have h1:=bI.size;have h2:=pO.out;omega)
  clear bI OW gf lO t0 t1 t2 f0 f1 f2 hB
  by_cases hlx:(ag l).2.1≠0
  ·rw [if_pos hlx] at he
   subst he
   have HA:Hid ((dH l (d:Int) true).2=((ag l).2.1,(ag l).2.2)):=zh (y8 H4.out (by have:=ky.out;omega) hlx)
   have lM:Hid (∀w',w.grownBy w' none→eS l (d:Int) true w (.returned (fe (ag l).2.1 (ag l).2.2)) w'):=zh (fun w' hg=>mz HA.out hlx hg)
   obtain⟨E,hE⟩:∃E,(ag l).2.1=E:=⟨_,rfl⟩
   obtain⟨P,hP⟩:∃P,(ag l).2.2=P:=⟨_,rfl⟩
   rw [hE] at hlx
   rw [hE,hP] at lM ⊢
   have e3:(E != 0)=true:=bne_iff_ne.2 hlx
   have VU:((E:Int) != 0)=true:=bne_iff_ne.2 (by omega)
   obtain⟨t0,t1,t2⟩:=ah (bx (World.grownBy_alloc w1 (.cells #[.int .i64 (E:Int),.int .i64 (P:Int)] 44) none) lI.out)
   obtain⟨f0,f1,f2⟩:=ah (bx (World.grownBy_alloc w1 (.cells #[.int .i64 (E:Int),.int .i64 (P:Int)] 44) none) rV.out)
   have vE:=ah (heap_alloc_new w1 (.cells #[.int .i64 (E:Int),.int .i64 (P:Int)] 44))
   have En:=J5.out
   clear hE hP hlx HA
   go_wp2_with fail
   go_region
   all_goals
    obtain⟨iE,ee,gN⟩:=vU (bx (World.grownBy_alloc w1 (.cells #[.int .i64 (E:Int),.int .i64 (P:Int)] 44) none) lI.out) (bx (World.grownBy_alloc w1 (.cells #[.int .i64 (E:Int),.int .i64 (P:Int)] 44) none) rV.out) (.slice none 0 0) (.slice none 0 0) (.int .i64 (E:Int)) (.int .i64 (P:Int))
    obtain⟨k0,k1,-⟩:=ah (bx (aF (ad _ none)) iE)
    obtain⟨m0,m1,-⟩:=ah (bx (aF (ad _ none)) ee)
    have ZE:=zh (aF (Fr2.after (ae cZ.out _) gN (fun j hj=>by have:=HB.out;rcases hj with h | h<;>omega)))
    clear iE ee gN t0 t1 t2 f0 f1 f2 vE En
    go_wp2_with fail
    refine bodyPost_ret (v:=fe E P) (by simp [results,Tryz.results17,go_sem,k0,k1,m0,m1,fe]) rfl (lM.out _ ZE.out)
  ·rw [if_neg hlx] at he
   have oK:(ag l).2.1=0:=by omega
   obtain⟨q,c,rfl,hT,DX,-⟩:=he
   have rW:=zh (Bt oK (by have:=ky.out;omega))
   have zH:=px (f:=true) H4.out (by have:=ky.out;omega) oK
   rw [Int.toNat_natCast] at zH
   have bl:=(oV oK).2
   have IC:Hid (∀w' pt ct pn cn K,(aH (ag l).1 d true).2.e=0→w.grownBy w' none→TAt w' pt (ag l).1→(ag l).1.length≤ct→aE w' pn (post 0 (.nd (ev true) (aH (ag l).1 d true).1)) K→((ag l).1≠[]→∀a,pt=some a→w.heap.size≤a.block)→(post 0 (.nd (ev true) (aH (ag l).1 d true).1)≠[]→∀a,pn=some a→w.heap.size≤a.block)→yf (post 0 (.nd (ev true) (aH (ag l).1 d true).1)) K (fun k=>w.heap.size≤k)→(post 0 (.nd (ev true) (aH (ag l).1 d true).1)).length≤2*(ag l).1.length→eS l (d:Int) true w (.returned (.tuple #[.agg #[.slice pt (ag l).1.length ct,.slice pn (post 0 (.nd (ev true) (aH (ag l).1 d true).1)).length cn],.agg #[.int .i64 0,.int .i64 0]])) w'):=zh (fun w' pt ct pn cn K h1 h2 h3 h4 h5 h6 h7 h8 h9=>by
    refine⟨h2,?_⟩
    rw [zH,if_pos h1,if_neg (by decide)]
    exact⟨pt,ct,pn,cn,K,rfl,h3,h4,h5,h6,h7,h8,h9⟩)
   have lM:Hid (∀w',(aH (ag l).1 d true).2.e≠0→w.grownBy w' none→eS l (d:Int) true w (.returned (fe (aH (ag l).1 d true).2.e (aH (ag l).1 d true).2.pos)) w'):=zh (fun w' h1 h2=>mz (by rw [zH,if_neg h1]) h1 h2)
   obtain⟨T,Jy⟩:∃T,(ag l).1=T:=⟨_,rfl⟩
   rw [Jy] at IC lM rW hT bl DX ⊢
   have iO:0<T.length:=List.length_pos_iff.2 bl
   have UE:=zh iO
   have Bh:T[0]? = some (an T az):=by
    unfold an
    show T[0]? = some (T[0]?.getD _)
    rw [List.getElem?_eq_getElem iO];rfl
   have qY:=zh hT;have DP:=zh bl
   have sF:=zh (fun W h=>ou T q c W (by have:=rW.out.len;omega) rW.out.short h)
   have Jo:=zh (fun (bb:Nat) W h=>DO bb T 0 [] (.slice none 0 0) (an T az) W (by have:=rW.out.len;omega) (Nat.zero_le _) rW.out.short (by rw [Nat.zero_min];exact Bh) h)
   have OO:=zh (fun (b bb:Nat) (W:World) h=>Ao b bb T d rW.out HD.out az [] (.slice none 0 0) (fun k=>b<k) W h)
   have Rd:=zh (fun (bb u:Nat) (N:List Nd) (vn:Value) W h1 h2 h3=>AE bb T u N vn W (by have:=rW.out.len;omega) rW.out.short h1 h2 h3)
   have Jw:Hid (aH T d true=de T (NT T d 0).expr az):=zh (by unfold aH;(first | rfl | (simp;rfl)))
   rw [Jw.out] at IC lM
   obtain⟨r,hr⟩:∃r,de T (NT T d 0).expr az=r:=⟨_,rfl⟩
   rw [hr] at IC lM OO
   obtain⟨m,hm⟩:∃m,T.length=m:=⟨_,rfl⟩
   have AZ:=zh hm
   rw [hm] at IC sF ⊢
   have ns:=zh (bx (World.grownBy_alloc w1 (.cells #[.int .i64 0,.int .i64 0] 44) none) lI.out)
   have es:=zh (bx (World.grownBy_alloc w1 (.cells #[.int .i64 0,.int .i64 0] 44) none) rV.out)
   have cz:=zh (ae cZ.out (.cells #[.int .i64 0,.int .i64 0] 44))
   have vE:=ah (heap_alloc_new w1 (.cells #[.int .i64 0,.int .i64 0] 44))
   clear zH hlx oK Jy hT DX bl iO hr hm Jw Bh
   go_wp2_with fail
   refine(sF.out _ (qY.out.kept (World.grownBy_alloc w1 _ none))).mono ?_
   rintro e w2 ⟨bb,rfl,As,yJ,bT⟩
   have eg:=zh (aa cz.out bT)
   have VS:=zh (bx bT ns.out);have jp:=zh (bx bT es.out)
   have CN:=zh yJ
   obtain⟨b,Ez⟩:∃b,w2.heap.size=b:=⟨_,rfl⟩
   have WU:=zh Ez
   have Kc:bb<b:=by
    obtain⟨pt,ct,K,hB⟩:=yJ
    rw [←Ez];exact j3 hB.box
   have fL:=zh Kc
   have qk:Hid (B+2≤bb):=zh (by
     have h1:=J5.out;have h2:(w1.alloc (.cells #[.int .i64 0,.int .i64 0] 44)).heap.size=w1.heap.size+1:=by simp
     omega)
   obtain⟨d0,d1,d2,d3,d4,d5,d6,d7,d8,d9,lK⟩:=bZ (show(w2.alloc (.cells #[.pointer (some ⟨bb,0,none⟩),.int .i64 0,.string ⟨#[]⟩,.string ⟨#[]⟩,.int .i64 0,.int .i64 (d:Int),.int .i64 0,.bool false,.int .i64 0,.int .i64 0] 107)).heap[b]? = some (.cells #[.pointer (some ⟨bb,0,none⟩),.int .i64 0,.string ⟨#[]⟩,.string ⟨#[]⟩,.int .i64 0,.int .i64 (d:Int),.int .i64 0,.bool false,.int .i64 0,.int .i64 0] 107 (0,0)) from by rw [←Ez];exact heap_alloc_new w2 _)
   clear vE sF As yJ bT Kc Ez
   go_wp2_with fail
   try rw [WU.out]
   refine(Jo.out bb _ (CN.out.kept (World.grownBy_alloc w2 _ none))).mono ?_
   rintro e w3 ⟨rfl,fM⟩
   have lP:=fun (v1 v2 v3 v4:Value) (h:(w2.alloc (.cells #[.pointer (some ⟨bb,0,none⟩),v1,v2,v3,v4,.int .i64 (d:Int),.int .i64 0,.bool false,.int .i64 0,.int .i64 0] 107)).grownBy w3 none)=>XAt.init WU.out CN.out fL.out UE.out h
   have lP:=lP _ _ _ _ fM
   have lw:=zh (aa (ae eg.out _) fM)
   have ZH:=zh (bx fM (bx (World.grownBy_alloc w2 _ none) VS.out));have vj:=zh (bx fM (bx (World.grownBy_alloc w2 _ none) jp.out))
   have d0:=fM.cell d0 (by simp);have d1:=fM.cell d1 (by simp);have d2:=fM.cell d2 (by simp);have d3:=fM.cell d3 (by simp);have d4:=fM.cell d4 (by simp)
   have L1:=bx fM (show(w2.alloc (.cells #[.pointer (some ⟨bb,0,none⟩),.int .i64 0,.string ⟨#[]⟩,.string ⟨#[]⟩,.int .i64 0,.int .i64 (d:Int),.int .i64 0,.bool false,.int .i64 0,.int .i64 0] 107)).heap[b]? = some (.cells #[.pointer (some ⟨bb,0,none⟩),.int .i64 0,.string ⟨#[]⟩,.string ⟨#[]⟩,.int .i64 0,.int .i64 (d:Int),.int .i64 0,.bool false,.int .i64 0,.int .i64 0] 107 (0,0)) from by rw [←WU.out];exact heap_alloc_new w2 _)
   obtain⟨d0,d1,d2,d3,d4,d5,d6,d7,d8,d9,lK⟩:=bZ L1
   obtain⟨t,ht⟩:∃t,an T az=t:=⟨_,rfl⟩
   rw [ht] at lP ⊢
   unfold Iw
   unfold aw at lP ⊢
   obtain⟨xl,zS⟩:∃xl:ByteArray,(⟨t.lead.toArray⟩:ByteArray)=xl:=⟨_,rfl⟩
   obtain⟨xt,Bj⟩:∃xt:ByteArray,(⟨t.text.toArray⟩:ByteArray)=xt:=⟨_,rfl⟩
   rw [zS,Bj] at lP ⊢
   obtain⟨tk,qK⟩:∃tk,t.kind=tk:=⟨_,rfl⟩
   obtain⟨tp,rR⟩:∃tp,t.pos=tp:=⟨_,rfl⟩
   rw [qK,rR] at lP ⊢
   have vg:=zh lP
   clear lP fM L1 Jo CN ht zS Bj qK rR
   go_wp2_with fail
   refine(OO.out _ _ _ vg.out.1).mono ?_
   rintro e w5 ⟨x,u,N',bY,rfl,WQ,DN,hu5,hn5⟩
   have Ul:=zh WQ;have HU5:=zh hu5;have HN5:=zh hn5
   have tN:∀k,k<w3.heap.size→k≠b→k≠bb→w5.heap[k]? = w3.heap[k]? := fun k h1 h2 h3=>by
    rw [DN.fr.block k (zn h1 vg.out.2.size) (by rintro(e | e | e);exact h2 e;exact h3 e;cases e),vg.out.2.block k h1 (fun e=>h2 e)]
   have TC:=zh ((tN B (j3 ZH.out) (by have:=fL.out;have:=qk.out;omega) (by have:=qk.out;omega)).trans ZH.out)
   have zl:=zh ((tN (B+1) (j3 vj.out) (by have:=fL.out;have:=qk.out;omega) (by have:=qk.out;omega)).trans vj.out)
   have iD:Hid (w.grownBy w5 none):=zh (Fr2.after (Fr2.after lw.out vg.out.2 (fun j hj=>by have h1:j=b:=hj;have:=fL.out;have:=qk.out;have:=HB.out;omega)) DN.fr (fun j hj=>by have:=fL.out;have:=qk.out;have:=HB.out;rcases hj with h | h | h;omega;omega;cases h))
   obtain⟨d0,d1,d2,d3,d4,d5,d6,d7,d8,d9,lK⟩:=bZ WQ.box
   clear WQ DN hu5 hn5 tN vg OO
   by_cases vp:r.2.e=0
   ·have e3:((r.2.e:Int) != 0)=false:=by rw [vp];rfl
    have VU:(r.2.e != 0)=false:=by rw [vp];rfl
    have UH:Hid (N'=post 0 (.nd (ev true) r.1)):=zh (by rw [HN5.out vp];simp [dT,ev])
    have Hx:=zh vp
    have bB:N'.length≤100000:=by have h1:=Ul.out.few;have h2:=HU5.out;have h3:=rW.out.len;omega
    have bL:=zh (Rd.out bb u N' bY w5 bB (fun y hy=>by rw [UH.out] at hy bB;exact Nat.le_trans (qr _ _ _ hy) bB) Ul.out.bld.bld)
    rw [vp] at d8
    clear vp bB Rd
    go_wp2_with fail
    refine bL.out.mono ?_
    rintro e w6 ⟨dk,pt,ct,pn,cn,K,rfl,eU,Gf,kF,kM,dK,fI⟩
    have Yh:=zh (bx dk TC.out);have NX:=zh (bx dk zl.out)
    have dQ:=zh (aa iD.out dk)
    rw [UH.out] at kF dK fI ⊢
    obtain⟨iE,ee,gN⟩:=vU Yh.out NX.out (.slice pt T.length ct) (.slice pn (post 0 (.nd (ev true) r.1)).length cn) (.int .i64 0) (.int .i64 0)
    have hB5:B+2≤w5.heap.size:=by have:=j3 zl.out;omega
    have Mr:=eU.keptF gN (fun h0 a ha e=>by have:=kM h0 a ha;rcases e with e | e<;>omega)
    have Oi:aE ((((w6.setCell ⟨B,0,none⟩ (.slice pt T.length ct)).setCell ⟨B,1,none⟩ (.slice pn (post 0 (.nd (ev true) r.1)).length cn)).setCell ⟨B+1,0,none⟩ (.int .i64 0)).setCell ⟨B+1,1,none⟩ (.int .i64 0)) pn (post 0 (.nd (ev true) r.1)) K:=⟨GAt.keptB kF.1 gN (fun h0 a ha e=>by have:=dK (fun h=>h0 (by rw [h];rfl)) a ha;rcases e with e | e<;>omega),fun i y hy=>(kF.2 i y hy).keptF gN (fun h0 a ha e=>by have:=fI i y hy (eB h0) a ha;rcases e with e | e<;>omega)⟩
    have HQ:=zh (IC.out _ pt ct pn cn K Hx.out (Fr2.after dQ.out gN (fun j hj=>by have:=HB.out;rcases hj with h | h<;>omega)) Mr (by rw [←AZ.out];exact Gf) Oi (fun h0 a ha=>Nat.le_trans iD.out.size (kM h0 a ha)) (fun h0 a ha=>Nat.le_trans iD.out.size (dK h0 a ha)) (fun i y hy hn a ha=>Nat.le_trans iD.out.size (fI i y hy hn a ha)) (by rw [←UH.out,←AZ.out];have h1:=Ul.out.few;have h2:=HU5.out;omega))
    obtain⟨t0,t1,t2⟩:=ah Yh.out
    obtain⟨f0,f1,f2⟩:=ah NX.out
    obtain⟨k0,k1,-⟩:=ah iE
    obtain⟨m0,m1,-⟩:=ah ee
    rw [AZ.out] at k0 k1 m0 m1 HQ ⊢
    clear iE ee gN eU Gf kF kM dK fI Mr Oi dk d0 d1 d2 d3 d4 d5 d6 d7 d8 d9 lK hB5
    go_wp2_with fail
    refine bodyPost_ret (v:=.tuple #[.agg #[.slice pt m ct,.slice pn (post 0 (.nd (ev true) r.1)).length cn],.agg #[.int .i64 0,.int .i64 0]]) (by simp [results,Tryz.results17,go_sem,k0,k1,m0,m1]) rfl HQ.out
   ·have e3:((r.2.e:Int) != 0)=true:=bne_iff_ne.2 (by omega)
    have VU:(r.2.e != 0)=true:=bne_iff_ne.2 vp
    have Hx:=zh vp
    obtain⟨E,hE⟩:∃E,r.2.e=E:=⟨_,rfl⟩
    obtain⟨P,hP⟩:∃P,r.2.pos=P:=⟨_,rfl⟩
    rw [hE] at e3 VU d8
    rw [hP] at d9
    rw [hE,hP] at lM
    obtain⟨t0,t1,t2⟩:=ah TC.out
    obtain⟨f0,f1,f2⟩:=ah zl.out
    have HRE:Hid (E≠0):=zh (by rw [←hE];exact vp)
    clear vp Hx hE hP d0 d1 d2 d3 d4 d5 d6 d7 Rd IC
    go_wp2_with fail
    go_region
    all_goals
     obtain⟨iE,ee,gN⟩:=vU TC.out zl.out (.slice none 0 0) (.slice none 0 0) (.int .i64 (E:Int)) (.int .i64 (P:Int))
     obtain⟨k0,k1,-⟩:=ah (bx (aF (ad _ none)) iE)
     obtain⟨m0,m1,-⟩:=ah (bx (aF (ad _ none)) ee)
     have HQ:=zh (lM.out _ HRE.out (aF (Fr2.after iD.out gN (fun j hj=>by have:=HB.out;rcases hj with h | h<;>omega))))
     clear iE ee gN t0 t1 t2 f0 f1 f2 d8 d9 lK
     go_wp2_with fail
     refine bodyPost_ret (v:=fe E P) (by simp [results,Tryz.results17,go_sem,k0,k1,m0,m1,fe]) rfl HQ.out
theorem Fo (s:ByteArray) (D:Int) (w:World) (hs:s.size≤25000) (cg:cM w):Calls Tryz.prog 7 #[.string s,.int .i64 D] w (eS s.data.toList D false w):=by
 obtain⟨B,hB⟩:∃B,w.heap.size=B:=⟨_,rfl⟩
 have HB:=zh hB
 have lO:Hid (w.grownBy ((w.alloc (.cells #[.slice none 0 0,.slice none 0 0] 42)).alloc (.cells #[.int .i64 0,.int .i64 0] 44)) none):=zh (ae (ae (ad _ _) _) _)
 have lI:Hid (((w.alloc (.cells #[.slice none 0 0,.slice none 0 0] 42)).alloc (.cells #[.int .i64 0,.int .i64 0] 44)).heap[B]? = some (.cells #[.slice none 0 0,.slice none 0 0] 42 (0,0))):=zh (by rw [←hB];exact bx (World.grownBy_alloc _ _ none) (heap_alloc_new w _))
 have rV:Hid (((w.alloc (.cells #[.slice none 0 0,.slice none 0 0] 42)).alloc (.cells #[.int .i64 0,.int .i64 0] 44)).heap[B+1]? = some (.cells #[.int .i64 0,.int .i64 0] 44 (0,0))):=zh (by
  have h9:=heap_alloc_new (w.alloc (.cells #[.slice none 0 0,.slice none 0 0] 42)) (.cells #[.int .i64 0,.int .i64 0] 44)
  rw [show(w.alloc (.cells #[.slice none 0 0,.slice none 0 0] 42)).heap.size=B+1 by simp [hB]] at h9
  exact h9)
 have pO:Hid (((w.alloc (.cells #[.slice none 0 0,.slice none 0 0] 42)).alloc (.cells #[.int .i64 0,.int .i64 0] 44)).heap.size=B+2):=zh (by simp [hB])
 have zP:=zh (fun W h=>yV s D W hs h)
 have gf:=zh (cg.kept lO.out)
 obtain⟨l,hl⟩:∃l,s.data.toList=l:=⟨_,rfl⟩
 rw [hl] at zP ⊢
 clear hs cg hl
 go_enter Tryz.func7,Tryz.ntmps7
 go_wp2_with fail
 try rw [hB]
 refine(zP.out _ gf.out).mono ?_
 rintro e w1 ⟨bI,he⟩
 have ns:=zh (bx bI lI.out);have es:=zh (bx bI rV.out)
 have cZ:=zh (aa lO.out bI)
 obtain⟨t0,t1,t2⟩:=ah ns.out
 obtain⟨f0,f1,f2⟩:=ah es.out
 clear bI zP gf hB
 by_cases bl:(dH l D false).2.1≠0
 ·rw [if_pos bl] at he
  subst he
  have lM:Hid (∀w',w.grownBy w' none→eS l D false w (.returned (fe (dH l D false).2.1 (dH l D false).2.2)) w'):=zh (fun w' hg=>mz rfl bl hg)
  obtain⟨E,hE⟩:∃E,(dH l D false).2.1=E:=⟨_,rfl⟩
  obtain⟨P,hP⟩:∃P,(dH l D false).2.2=P:=⟨_,rfl⟩
  rw [hE,hP] at lM ⊢
  unfold fe
  obtain⟨iE,ee,gN⟩:=vU ns.out es.out (.slice none 0 0) (.slice none 0 0) (.int .i64 (E:Int)) (.int .i64 (P:Int))
  obtain⟨k0,k1,-⟩:=ah iE
  obtain⟨m0,m1,-⟩:=ah ee
  have HQ:=zh (lM.out _ (Fr2.after cZ.out gN (fun j hj=>by have:=HB.out;rcases hj with h | h<;>omega)))
  clear iE ee gN hE hP bl
  go_wp2_with fail
  refine bodyPost_ret (v:=fe E P) (by simp [results,Tryz.results7,go_sem,k0,k1,m0,m1,fe]) rfl HQ.out
 ·rw [if_neg bl] at he
  obtain⟨pt,ct,pn,cn,K,rfl,eU,Gf,kF,kM,dK,fI,qF⟩:=he
  obtain⟨iE,ee,gN⟩:=vU ns.out es.out (.slice pt (ag l).1.length ct) (.slice pn (aD l D false).length cn) (.int .i64 0) (.int .i64 0)
  have db:=pO.out
  have NC:=Fr2.after cZ.out gN (fun j hj=>by have:=HB.out;rcases hj with h | h<;>omega)
  have hq:eS l D false w (.returned (.tuple #[.agg #[.slice pt (ag l).1.length ct,.slice pn (aD l D false).length cn],.agg #[.int .i64 0,.int .i64 0]])) ((((w1.setCell ⟨B,0,none⟩ (.slice pt (ag l).1.length ct)).setCell ⟨B,1,none⟩ (.slice pn (aD l D false).length cn)).setCell ⟨B+1,0,none⟩ (.int .i64 0)).setCell ⟨B+1,1,none⟩ (.int .i64 0)):=by
   refine⟨NC,?_⟩
   rw [if_neg bl]
   have hb:=HB.out
   exact⟨pt,ct,pn,cn,K,rfl,eU.keptF gN (fun h0 a ha e=>by have:=kM h0 a ha;rcases e with e | e<;>omega),Gf,⟨GAt.keptB kF.1 gN (fun h0 a ha e=>by have:=dK (fun h=>h0 (by rw [h];rfl)) a ha;rcases e with e | e<;>omega),fun i y hy=>(kF.2 i y hy).keptF gN (fun h0 a ha e=>by have:=fI i y hy (eB h0) a ha;rcases e with e | e<;>omega)⟩,fun h0 a ha=>by have:=kM h0 a ha;omega,fun h0 a ha=>by have:=dK h0 a ha;omega,fun i y hy hn a ha=>by have:=fI i y hy hn a ha;omega,qF⟩
  obtain⟨k0,k1,-⟩:=ah iE
  obtain⟨m0,m1,-⟩:=ah ee
  have HQ:=zh hq
  clear iE ee gN db NC hq eU Gf kF kM dK fI qF bl
  obtain⟨m,hm⟩:∃m,(ag l).1.length=m:=⟨_,rfl⟩
  obtain⟨M,hM⟩:∃M,(aD l D false).length=M:=⟨_,rfl⟩
  rw [hm,hM] at k0 k1 m0 m1 HQ ⊢
  clear hm hM
  go_wp2_with fail
  refine bodyPost_ret (v:=.tuple #[.agg #[.slice pt m ct,.slice pn M cn],.agg #[.int .i64 0,.int .i64 0]]) (by simp [results,Tryz.results7,go_sem,k0,k1,m0,m1]) rfl HQ.out
theorem xj (s:ByteArray) (D:Int) (w:World) (hs:s.size≤25000) (cg:cM w):Calls Tryz.prog 26 #[.string s,.int .i64 D] w (eS s.data.toList D true w):=by
 obtain⟨B,hB⟩:∃B,w.heap.size=B:=⟨_,rfl⟩
 have HB:=zh hB
 have lO:Hid (w.grownBy ((w.alloc (.cells #[.slice none 0 0,.slice none 0 0] 42)).alloc (.cells #[.int .i64 0,.int .i64 0] 44)) none):=zh (ae (ae (ad _ _) _) _)
 have lI:Hid (((w.alloc (.cells #[.slice none 0 0,.slice none 0 0] 42)).alloc (.cells #[.int .i64 0,.int .i64 0] 44)).heap[B]? = some (.cells #[.slice none 0 0,.slice none 0 0] 42 (0,0))):=zh (by rw [←hB];exact bx (World.grownBy_alloc _ _ none) (heap_alloc_new w _))
 have rV:Hid (((w.alloc (.cells #[.slice none 0 0,.slice none 0 0] 42)).alloc (.cells #[.int .i64 0,.int .i64 0] 44)).heap[B+1]? = some (.cells #[.int .i64 0,.int .i64 0] 44 (0,0))):=zh (by
  have h9:=heap_alloc_new (w.alloc (.cells #[.slice none 0 0,.slice none 0 0] 42)) (.cells #[.int .i64 0,.int .i64 0] 44)
  rw [show(w.alloc (.cells #[.slice none 0 0,.slice none 0 0] 42)).heap.size=B+1 by simp [hB]] at h9
  exact h9)
 have pO:Hid (((w.alloc (.cells #[.slice none 0 0,.slice none 0 0] 42)).alloc (.cells #[.int .i64 0,.int .i64 0] 44)).heap.size=B+2):=zh (by simp [hB])
 have zP:=zh (fun W h=>Dz s D W hs h)
 have gf:=zh (cg.kept lO.out)
 obtain⟨l,hl⟩:∃l,s.data.toList=l:=⟨_,rfl⟩
 rw [hl] at zP ⊢
 clear hs cg hl
 go_enter Tryz.func26,Tryz.ntmps26
 go_wp2_with fail
 try rw [hB]
 refine(zP.out _ gf.out).mono ?_
 rintro e w1 ⟨bI,he⟩
 have ns:=zh (bx bI lI.out);have es:=zh (bx bI rV.out)
 have cZ:=zh (aa lO.out bI)
 obtain⟨t0,t1,t2⟩:=ah ns.out
 obtain⟨f0,f1,f2⟩:=ah es.out
 clear bI zP gf hB
 by_cases bl:(dH l D true).2.1≠0
 ·rw [if_pos bl] at he
  subst he
  have lM:Hid (∀w',w.grownBy w' none→eS l D true w (.returned (fe (dH l D true).2.1 (dH l D true).2.2)) w'):=zh (fun w' hg=>mz rfl bl hg)
  obtain⟨E,hE⟩:∃E,(dH l D true).2.1=E:=⟨_,rfl⟩
  obtain⟨P,hP⟩:∃P,(dH l D true).2.2=P:=⟨_,rfl⟩
  rw [hE,hP] at lM ⊢
  unfold fe
  obtain⟨iE,ee,gN⟩:=vU ns.out es.out (.slice none 0 0) (.slice none 0 0) (.int .i64 (E:Int)) (.int .i64 (P:Int))
  obtain⟨k0,k1,-⟩:=ah iE
  obtain⟨m0,m1,-⟩:=ah ee
  have HQ:=zh (lM.out _ (Fr2.after cZ.out gN (fun j hj=>by have:=HB.out;rcases hj with h | h<;>omega)))
  clear iE ee gN hE hP bl
  go_wp2_with fail
  refine bodyPost_ret (v:=fe E P) (by simp [results,Tryz.results26,go_sem,k0,k1,m0,m1,fe]) rfl HQ.out
 ·rw [if_neg bl] at he
  obtain⟨pt,ct,pn,cn,K,rfl,eU,Gf,kF,kM,dK,fI,qF⟩:=he
  obtain⟨iE,ee,gN⟩:=vU ns.out es.out (.slice pt (ag l).1.length ct) (.slice pn (aD l D true).length cn) (.int .i64 0) (.int .i64 0)
  have db:=pO.out
  have NC:=Fr2.after cZ.out gN (fun j hj=>by have:=HB.out;rcases hj with h | h<;>omega)
  have hq:eS l D true w (.returned (.tuple #[.agg #[.slice pt (ag l).1.length ct,.slice pn (aD l D true).length cn],.agg #[.int .i64 0,.int .i64 0]])) ((((w1.setCell ⟨B,0,none⟩ (.slice pt (ag l).1.length ct)).setCell ⟨B,1,none⟩ (.slice pn (aD l D true).length cn)).setCell ⟨B+1,0,none⟩ (.int .i64 0)).setCell ⟨B+1,1,none⟩ (.int .i64 0)):=by
   refine⟨NC,?_⟩
   rw [if_neg bl]
   have hb:=HB.out
   exact⟨pt,ct,pn,cn,K,rfl,eU.keptF gN (fun h0 a ha e=>by have:=kM h0 a ha;rcases e with e | e<;>omega),Gf,⟨GAt.keptB kF.1 gN (fun h0 a ha e=>by have:=dK (fun h=>h0 (by rw [h];rfl)) a ha;rcases e with e | e<;>omega),fun i y hy=>(kF.2 i y hy).keptF gN (fun h0 a ha e=>by have:=fI i y hy (eB h0) a ha;rcases e with e | e<;>omega)⟩,fun h0 a ha=>by have:=kM h0 a ha;omega,fun h0 a ha=>by have:=dK h0 a ha;omega,fun i y hy hn a ha=>by have:=fI i y hy hn a ha;omega,qF⟩
  obtain⟨k0,k1,-⟩:=ah iE
  obtain⟨m0,m1,-⟩:=ah ee
  have HQ:=zh hq
  clear iE ee gN db NC hq eU Gf kF kM dK fI qF bl
  obtain⟨m,hm⟩:∃m,(ag l).1.length=m:=⟨_,rfl⟩
  obtain⟨M,hM⟩:∃M,(aD l D true).length=M:=⟨_,rfl⟩
  rw [hm,hM] at k0 k1 m0 m1 HQ ⊢
  clear hm hM
  go_wp2_with fail
  refine bodyPost_ret (v:=.tuple #[.agg #[.slice pt m ct,.slice pn M cn],.agg #[.int .i64 0,.int .i64 0]]) (by simp [results,Tryz.results26,go_sem,k0,k1,m0,m1]) rfl HQ.out
end Go.Proofs.YtjbgnopnehgbaaaGreatDoor
