/- Lemmas. -/
import Derived.Test.YtjbgnopnehgbaaaGreatDoorP3
set_option linter.unusedVariables false
set_option linter.unusedSimpArgs false
set_option maxHeartbeats 8000000
set_option maxRecDepth 100000
namespace Go.Proofs.YtjbgnopnehgbaaaGreatDoor
open Go.RowKit
theorem Wo:(Tryz.prog.info? 105).map (fun i=>(i.zero,i.size,i.bytes))=some (some (.agg #[.int .i64 0,.string ⟨#[]⟩,.string ⟨#[]⟩,.int .i64 0]),4,48):=by kernel_rfl
theorem Ny:(Tryz.prog.info? 152).map (fun i=>(i.zero,i.size,i.bytes))=some (some (.agg #[.int .i64 0,.int .i64 0,.slice none 0 0]),3,40):=by kernel_rfl
def mo (l:List Tok):List (List Value):=l.map nf
theorem kh (l:List Tok):(mo l).length=l.length:=List.length_map _
theorem IU {l:List Tok} {k:Nat} {t:Tok} (h:l[k]? = some t):(mo l).take (k+1)=(mo l).take k++[nf t]:=by
 rw [List.take_add_one];unfold mo;rw [List.getElem?_map,h];rfl
theorem CV {w:World} {p:Option Addr} {l:List Tok} (h:GAt 4 w p (mo l)):TAt w p l:=by
 rcases h with h | ⟨g,off,rfl,hl,hc⟩
 ·exact .inl (List.map_eq_nil_iff.1 h)
 ·refine .inr ⟨g,off,rfl,hl,fun j q hj=>?_⟩
  have h1:(mo l)[j]? = some (nf q):=by unfold mo;rw [List.getElem?_map,hj];rfl
  exact⟨hc j _ h1 0 _ rfl,hc j _ h1 1 _ rfl,hc j _ h1 2 _ rfl,hc j _ h1 3 _ rfl⟩
theorem JW (t:Tok):∀u∈nf t,u.oneCell'=true:=fun u hu=>by unfold nf aw at hu;simp at hu;rcases hu with rfl | rfl | rfl | rfl<;>rfl
def Ua (l:List Tok) (w:World) (e:Ending) (w':World):Prop:=∃v,e=.returned v∧ak 4 105 w' w.heap.size v (mo l)∧w.grownBy w' none
def tT (l:List Tok):Prop:=∀t∈l,t.lead.length≤1000000∧t.text.length≤1000000
theorem rk (l:List Tok) (q:Option Addr) (c:Nat) (w:World) (hl:l.length≤100000) (hs:tT l) (h:TAt w q l):
  Calls Tryz.prog 73 #[.slice q l.length c] w (Ua l w):=by
 obtain⟨m,hm⟩:∃m,l.length=m:=⟨_,rfl⟩
 have HM:=zh hm;have HA:=zh h;have CC:=zh hs
 rw [hm] at hl ⊢
 clear hm h hs
 obtain⟨B,hB⟩:∃B,w.heap.size=B:=⟨_,rfl⟩
 have mD:=zh hB
 have HP:Hid (∀v w',ak 4 105 w' B v (mo l)→Below B w w'→Ua l w (.returned v) w'):=zh (fun v w' h1 h2=>⟨v,rfl,by rw [hB];exact h1,bz (by rw [hB];exact h2)⟩)
 clear hB
 go_enter Tryz.func73,Tryz.ntmps73
 go_wp2_with fail
 go_loopw [3,8] (fun ov iv wr=>∃k:Nat,k≤m∧iv=.int .i64 k∧Hid (ak 4 105 wr B ov ((mo l).take k))∧Hid (Below B w wr)) (fun _ v _=>m - (intOf v).toNat)
 case atStart=>exact⟨0,Nat.zero_le _,rfl,zh (ak.nil _ _ _ _),zh (Below.refl _ _)⟩
 case round=>
  obtain⟨k,hk,rfl,HO,HB⟩:=hrel
  have HG:Hid (w.grownBy wr none):=zh (bz (by rw [mD.out];exact HB.out))
  by_cases hlt:k<m
  ·have d1:decide ((k:Int)<(m:Int))=true:=zd (by omega)
   have uR:decide (k<m)=true:=zd hlt
   obtain⟨t,ht⟩:∃t,l[k]? = some t:=⟨l[k]'(by rw [HM.out];exact hlt),List.getElem?_eq_getElem _⟩
   obtain⟨g,off,rfl,gc,hc⟩:=HA.out.resolve_left (fun h=>by have h1:=HM.out;rw [h] at h1;simp at h1;omega)
   obtain⟨c0,c1,c2,c3⟩:=hc k t ht
   have c0:=HG.out.cell c0 (by simp)
   have c1:=HG.out.cell c1 (by simp)
   have c2:=HG.out.cell c2 (by simp)
   have c3:=HG.out.cell c3 (by simp)
   have ir:=zh (IU ht)
   obtain⟨Ot,Ov⟩:=CC.out t (List.mem_of_getElem? ht)
   unfold aw at c1 c2
   obtain⟨x,hx⟩:∃x:ByteArray,(⟨t.lead.toArray⟩:ByteArray)=x:=⟨_,rfl⟩
   obtain⟨y,hy⟩:∃y:ByteArray,(⟨t.text.toArray⟩:ByteArray)=y:=⟨_,rfl⟩
   have OS:x.size≤1000000:=by rw [←aM,←hx];exact Ot
   have jL:y.size≤1000000:=by rw [←aM,←hy];exact Ov
   have Tl:Hid (nf t = [.int .i64 (t.kind:Int),.string x,.string y,.int .i64 (t.pos:Int)]):=zh (by unfold nf aw;rw [hx,hy])
   rw [hx] at c1
   rw [hy] at c2
   have H1C:=zh (JW t)
   have wZ:Hid (((mo l).take k).length≤1000000):=zh (by rw [List.length_take,kh,HM.out];omega)
   have kA:Hid (((mo l).take k).length=k):=zh (by rw [List.length_take,kh,HM.out];omega)
   have IL:=zh (fun W=>tH (t.kind:Int) (t.pos:Int) x y W OS jL)
   generalize (t.kind:Int)=tk at *
   generalize (t.pos:Int)=tp at *
   generalize (mo l).take k=LK at HO ir wZ kA
   have Zh:=World.grownBy_alloc wr (.cells #[.int .i64 tk,.string x,.string y,.int .i64 tp] 105) none
   have HX:=zh (heap_alloc_new wr (.cells #[.int .i64 tk,.string x,.string y,.int .i64 tp] 105))
   have rP:g<wr.heap.size:=zn gc HG.out.size
   clear hc hx hy OS jL Ot Ov ht
   go_wp2_with fail
   refine(IL.out _).mono ?_
   rintro e w2 ⟨rfl,bT⟩
   have cz:=zh (aa Zh bT)
   have qq:=zh (HO.out.kept cz.out)
   have fu:=zh (Below.trans2 HB.out (Below.gb cz.out (by have:=HB.out.size;have:=mD.out;omega)))
   have gS:B≤w2.heap.size:=by have:=fu.out.size;have:=mD.out;omega
   clear bT Zh HX HO HB HG c0 c1 c2 c3
   go_wp2_with (at_builtin;go_loud (refine el (s:=4) (t:=39) (T:=105) (by decide) Tryz.underlying39 Wo rfl (by omega) rfl _ _ rfl B LK (nf t) (by rw [Tl.out];rfl) H1C.out u3 rfl (ak.kept qq.out (World.grownBy_alloc w2 _ none)) w2.heap.size _ (by rw [Tl.out]) (heap_alloc_new w2 _) rfl wZ.out (by simp;omega) (w2.heap.size+1) (by simp) ?_))
   intro g9 cap9 w9 ii eu _
   rw [←ir.out,kA.out] at ii
   have ss:=zh ii
   have rf:=zh ((Below.trans2 fu.out (Below.gb (World.grownBy_alloc w2 _ none) gS)).grown eu (by simp;omega) (fun k e=>(ak.at qq.out k e).1))
   rw [kA.out]
   clear ii eu qq fu
   go_wp2_with fail
   go_roundw
   case rel=>exact⟨k+1,by omega,by go_num,ss,rf⟩
   case measure=>(simp [intOf]<;>omega)
  ·obtain rfl:k=m:=by omega
   rw [List.take_of_length_le (l:=mo l) (i:=k) (by rw [kh,HM.out];exact Nat.le_refl _)] at HO
   go_wp2_with fail
   go_ret
   exact HP.out _ _ HO.out HB.out
theorem dO {w:World} {r:Nat} {a b c:Value} {T:TypeId} (h:w.heap[r]? = some (.cells #[a,b,c] T (0,0))):w.cell? ⟨r,0,none⟩=some a∧w.cell? ⟨r,1,none⟩=some b∧w.cell? ⟨r,2,none⟩=some c∧∀o,w.frozen? ⟨r,o,none⟩=false:=
 ⟨by rw [cell_of_row w r 0 _ T (0,0) h];rfl,by rw [cell_of_row w r 1 _ T (0,0) h];rfl,by rw [cell_of_row w r 2 _ T (0,0) h];rfl,fun o=>by simp [World.frozen?,h]⟩
def TW (k t:Int) (l:List Int) (w:World) (e:Ending) (w':World):Prop:=w.grownBy w' none∧∃p c,e=.returned (.agg #[.int .i64 k,.int .i64 t,.slice p l.length c])∧VAt w' p (bo l)∧l.length≤c∧(l≠[]→∀a,p=some a→w.heap.size≤a.block∧a.block<w'.heap.size)
theorem wQ (k t:Int) (l:List Int) (q:Option Addr) (c:Nat) (w:World) (hl:l.length≤100000) (h:VAt w q (bo l)):
  Calls Tryz.prog 75 #[.agg #[.int .i64 k,.int .i64 t,.slice q l.length c]] w (TW k t l w):=by
 have HP:Hid (∀p n c w',n=l.length→w.grownBy w' none→pR w' w.heap.size (.slice p n c) l→TW k t l w (.returned (.agg #[.int .i64 k,.int .i64 t,.slice p n c])) w'):=zh (fun p n c w' hn hg ho=>by
  subst hn
  obtain⟨p',c',e,hv,h1,-,h2⟩:=ho.parts
  injection e with e1 e2 e3
  subst e1;subst e3
  exact⟨hg,p,c,rfl,hv,h1,fun bl a ha=>⟨h2 bl a ha,by
   subst ha
   obtain⟨g,off,e,hl,-⟩:=hv.resolve_left (fun h0=>bl (List.length_eq_zero_iff.1 (by have:=congrArg List.length h0;rwa [dW] at this)))
   cases e;exact hl⟩⟩)
 have HV:=zh h
 have ky:Hid ((one (bo l)).length=l.length):=zh (by rw [mK,dW])
 obtain⟨m,hm⟩:∃m,l.length=m:=⟨_,rfl⟩
 rw [hm] at HP ky hl ⊢
 clear hm h
 go_enter Tryz.func75,Tryz.ntmps75
 have HZ:=zh (ak.nil 1 3)
 have hA:=heap_alloc_new w (.cells #[.int .i64 k,.int .i64 t,.slice q m c] 152)
 have lF:=World.grownBy_alloc w (.cells #[.int .i64 k,.int .i64 t,.slice q m c] 152) none
 have BI:(w.alloc (.cells #[.int .i64 k,.int .i64 t,.slice q m c] 152)).heap.size=w.heap.size+1:=by simp
 go_upto_region 1 with fail
 generalize (w.alloc (.cells #[.int .i64 k,.int .i64 t,.slice q m c] 152))=W1 at *
 have hB:=heap_alloc_new W1 (.cells #[.int .i64 0,.int .i64 0,.slice none 0 0] 152)
 have oZ:=World.grownBy_alloc W1 (.cells #[.int .i64 0,.int .i64 0,.slice none 0 0] 152) none
 have EE:(W1.alloc (.cells #[.int .i64 0,.int .i64 0,.slice none 0 0] 152)).heap.size=w.heap.size+2:=by simp [BI]
 rw [BI] at hB
 generalize (W1.alloc (.cells #[.int .i64 0,.int .i64 0,.slice none 0 0] 152))=W at *
 obtain⟨b,hb⟩:∃b,w.heap.size=b:=⟨_,rfl⟩
 have mD:=zh hb
 rw [hb] at hA hB EE ⊢
 obtain⟨b1,fw⟩:∃x,b+1=x:=⟨_,rfl⟩
 rw [fw] at hB ⊢
 have hlt:b<b1:=by omega
 have dC:b1<W.heap.size:=by omega
 have L8:b+2≤W.heap.size:=by omega
 have ig:b1<b+2:=by omega
 have HA:=zh (bx oZ hA);have HB:=zh hB;have lO:=zh (aa lF oZ)
 have HVG:=zh (Xs (HV.out.kept lO.out))
 clear hA hB lF oZ BI EE hb fw
 obtain⟨a0,a1,a2,a3⟩:=dO HA.out
 go_wp2_with (at_builtin;go_loud (refine oG (s:=1) (t:=110) (T:=3) (by decide) Tryz.underlying110 Ts rfl (by omega) rfl _ _ rfl (b+2) [] (one (bo l)) (ye (mT l)) (.slice none 0 0) rfl (HZ.out _ _) q m c rfl ky.out HVG.out (by simp) (by omega) L8 ?_))
 intro p9 n9 cap9 w9 hn9 ii Wc eu
 obtain rfl:n9=m:=by simpa using hn9
 have ii:ak 1 3 w9 (b+2) (.slice p9 n9 cap9) (one (bo l)):=ii
 have ss:=zh ii
 have rf:=zh Wc
 have hA9:=(Wc.block b (by omega)).trans HA.out
 have hC9:=(Wc.block b1 (by omega)).trans HB.out
 have aeh:=ab (i:=2) (u:=.slice p9 n9 cap9) hA9
 have nj:=zh (Fr2.setCell (S:=fun k=>k=b∨k=b1) (Fr2.refl _ w9) (g:=b) (j:=2) (.inl rfl) (.slice p9 n9 cap9))
 have aag:=(Below.heap_setCell w9 ⟨b,2,none⟩ (.slice p9 n9 cap9) b1 (by first | omega | (simp;omega))).trans hC9
 obtain⟨d0,d1,d2,d3⟩:=dO hA9
 obtain⟨f0,f1,f2,f3⟩:=dO hC9
 have ae7:=zh (ab (i:=2) (u:=.slice p9 n9 cap9) (ab (i:=1) (u:=.int .i64 t) (ab (i:=0) (u:=.int .i64 k) aag)))
 have aac:=zh (((nj.out.setCell (g:=b1) (j:=0) (.inr rfl) (.int .i64 k)).setCell (g:=b1) (j:=1) (.inr rfl) (.int .i64 t)).setCell (g:=b1) (j:=2) (.inr rfl) (.slice p9 n9 cap9))
 clear hn9 ii Wc eu a0 a1 a2 a3 HA HB hA9 hC9 aeh aag nj
 go_wp2_with fail
 obtain⟨k0,k1,k2,-⟩:=dO ae7.out
 refine bodyPost_ret (v:=.agg #[.int .i64 k,.int .i64 t,.slice p9 n9 cap9]) (by simp [results,Tryz.results75,go_sem,k0,k1,k2]) rfl (HP.out _ _ _ _ rfl ?_ ?_)
 ·exact Fr2.after (aa lO.out (ad _ _)) ((Fr2.ofBelow rf.out).mono (S':=fun j=>b≤j) (fun j hj=>by omega) |>.trans (aac.out.mono (fun j hj=>by omega))) (fun j hj=>by rw [mD.out];exact hj)
 ·have h1:=ss.out.keptF aac.out (fun j e=>by have:=(ak.at ss.out j e).1;omega)
  rw [mD.out]
  exact⟨⟨h1.1.1,h1.1.2.imp id fun ⟨g,cap,fp,e,hb,r⟩=>⟨g,cap,fp,e,by omega,r⟩⟩,h1.2⟩
abbrev Kf:=Nat→Option Addr×Nat
structure Bld (w:World) (b:Nat) (pt:Option Addr) (ct:Nat) (l:List Tok) (u:Nat) (vn:Value) (N:List Nd) (K:Kf):Prop where
 box:w.heap[b]? = some (.cells #[.slice pt l.length ct,.int .i64 (u:Int),vn] 149 (0,0))
 cap:l.length≤ct
 toks:TAt w pt l
 tlow:l≠[]→∀a,pt=some a→a.block<b
 own:ak 3 152 w (b+1) vn (l8 K N)
 kids:Ei w N K
 khi:∀(i:Nat) (x:Nd),N[i]? = some x→x.kids≠[]→∀a,(K i).1=some a→b<a.block∧a.block<w.heap.size∧vn.ownBlock≠some a.block
def yD (b:Nat) (vn:Value):Nat→Prop:=fun k=>k=b∨vn.ownBlock=some k
def vI (w:World) (b:Nat) (l:List Tok) (u:Nat) (N:List Nd) (vn:Value):Prop:=∃pt ct K,Bld w b pt ct l u vn N K
theorem FK (K:Kf) (n:Nat) (p:Option Addr) (c:Nat):∃K':Kf,K' n=(p,c)∧∀i,i≠n→K' i=K i:=
 ⟨fun i=>if i=n then (p,c) else K i,by simp,fun i hi=>by simp [hi]⟩
theorem wX {K K':Kf} {N:List Nd} {x:Nd} {p:Option Addr} {c:Nat} (h1:K' N.length=(p,c)) (h2:∀i,i≠N.length→K' i=K i):l8 K' (N++[x])=l8 K N++[[.int .i64 x.kind,.int .i64 x.tok,.slice p x.kids.length c]]:=by
 unfold l8
 rw [List.mapIdx_append]
 congr 1
 ·refine List.ext_getElem? fun i=>?_
  rw [List.getElem?_mapIdx,List.getElem?_mapIdx]
  by_cases hi:i<N.length
  ·rw [List.getElem?_eq_getElem hi];simp [ndV,h2 i (by omega)]
  ·rw [List.getElem?_eq_none (by omega)];rfl
 ·simp [ndV,h1]
theorem iX (K:Kf) (N:List Nd):(l8 K N).length=N.length:=List.length_mapIdx
theorem Bld.kept {w w':World} {b:Nat} {pt:Option Addr} {ct:Nat} {l:List Tok} {u:Nat} {vn:Value} {N:List Nd} {K:Kf} (h:Bld w b pt ct l u vn N K) (hg:w.grownBy w' none):Bld w' b pt ct l u vn N K:=
 ⟨bx hg h.box,h.cap,h.toks.kept hg,h.tlow,h.own.kept hg,fun i x hx=>(h.kids i x hx).kept hg,fun i x hx hn a ha=>by
  obtain⟨h1,h2,h3⟩:=h.khi i x hx hn a ha
  exact⟨h1,zn h2 hg.size,h3⟩⟩
theorem vI.kept {w w':World} {b:Nat} {l:List Tok} {u:Nat} {N:List Nd} {vn:Value} (h:vI w b l u N vn) (hg:w.grownBy w' none):vI w' b l u N vn:=by
 obtain⟨pt,ct,K,h⟩:=h
 exact⟨pt,ct,K,h.kept hg⟩
theorem Bld.keptF {S:Nat→Prop} {w w':World} {b:Nat} {pt:Option Addr} {ct:Nat} {l:List Tok} {u:Nat} {vn:Value} {N:List Nd} {K:Kf} (h:Bld w b pt ct l u vn N K) (hf:Fr2 S w w') (hS:∀k,k≤b→¬S k) (hv:∀k,vn.ownBlock=some k→¬S k)
  (hk:∀(i:Nat) (x:Nd),N[i]? = some x→x.kids≠[]→∀a,(K i).1=some a→¬S a.block):Bld w' b pt ct l u vn N K:=by
 refine⟨hf.keep h.box (hS b (Nat.le_refl _)),h.cap,?_,h.tlow,h.own.keptF hf hv,fun i x hx=>?_,fun i x hx hn a ha=>?_⟩
 ·rcases h.toks with h0 | ⟨g,off,rfl,hl,hc⟩
  ·exact .inl h0
  ·by_cases h0:l = []
   ·exact .inl h0
   ·have h1:=h.tlow h0 _ rfl
    simp at h1
    have hb:=hf.block g hl (hS g (by omega))
    refine .inr ⟨g,off,rfl,zn hl hf.size,fun j q hj=>?_⟩
    obtain⟨c0,c1,c2,c3⟩:=hc j q hj
    exact⟨(World.cell?_of_block (a:=⟨g,_,none⟩) hb).trans c0,(World.cell?_of_block (a:=⟨g,_,none⟩) hb).trans c1,(World.cell?_of_block (a:=⟨g,_,none⟩) hb).trans c2,(World.cell?_of_block (a:=⟨g,_,none⟩) hb).trans c3⟩
 ·rcases h.kids i x hx with h0 | ⟨g,off,e,hl,hc⟩
  ·exact .inl h0
  ·by_cases h0:x.kids = []
   ·exact .inl (by rw [h0];rfl)
   ·have hb:=hf.block g hl (hk i x hx h0 _ e)
    exact .inr ⟨g,off,e,zn hl hf.size,fun j v hj=>(World.cell?_of_block (a:=⟨g,_,none⟩) hb).trans (hc j v hj)⟩
 ·obtain⟨h1,h2,h3⟩:=h.khi i x hx hn a ha
  exact⟨h1,zn h2 hf.size,h3⟩
theorem VAt.keptF {S:Nat→Prop} {w w':World} {p:Option Addr} {vs:List Value} (h:VAt w p vs) (hf:Fr2 S w w') (hS:vs≠[]→∀a,p=some a→¬S a.block):VAt w' p vs:=by
 rcases h with h0 | ⟨g,off,e,hl,hc⟩
 ·exact .inl h0
 ·by_cases h0:vs = []
  ·exact .inl h0
  ·have hb:=hf.block g hl (hS h0 _ e)
   exact .inr ⟨g,off,e,zn hl hf.size,fun j v hj=>(World.cell?_of_block (a:=⟨g,_,none⟩) hb).trans (hc j v hj)⟩
theorem TAt.keptF {S:Nat→Prop} {w w':World} {p:Option Addr} {l:List Tok} (h:TAt w p l) (hf:Fr2 S w w') (hS:l≠[]→∀a,p=some a→¬S a.block):TAt w' p l:=by
 rcases h with h0 | ⟨g,off,e,hl,hc⟩
 ·exact .inl h0
 ·by_cases h0:l = []
  ·exact .inl h0
  ·have hb:=hf.block g hl (hS h0 _ e)
   refine .inr ⟨g,off,e,zn hl hf.size,fun j q hj=>?_⟩
   obtain⟨c0,c1,c2,c3⟩:=hc j q hj
   exact⟨(World.cell?_of_block (a:=⟨g,_,none⟩) hb).trans c0,(World.cell?_of_block (a:=⟨g,_,none⟩) hb).trans c1,(World.cell?_of_block (a:=⟨g,_,none⟩) hb).trans c2,(World.cell?_of_block (a:=⟨g,_,none⟩) hb).trans c3⟩
theorem VAt.lt {w:World} {p:Option Addr} {vs:List Value} (h:VAt w p vs) (h0:vs≠[]):∀a,p=some a→a.block<w.heap.size:=fun a ha=>by
 obtain⟨g,off,e,hl,-⟩:=h.resolve_left h0
 rw [ha] at e;cases e;exact hl
theorem eB {l:List Int} (h:bo l≠[]):l≠[]:=fun e=>h (by rw [e];rfl)
theorem Aw {l:List Int} (h:l≠[]):bo l≠[]:=fun e=>h (List.length_eq_zero_iff.1 (by have:=congrArg List.length e;rwa [dW] at this))
theorem Bld.turn {w:World} {b:Nat} {pt:Option Addr} {ct:Nat} {l:List Tok} {u:Nat} {vn:Value} {N:List Nd} {K:Kf} (h:Bld w b pt ct l u vn N K):∀k,vn.ownBlock=some k→b<k∧k<w.heap.size:=fun k e=>by
 obtain⟨h1,h2⟩:=ak.at h.own k e;omega
def Gb (l:List Tok) (w:World) (e:Ending) (w':World):Prop:=
 ∃b,e=.returned (.pointer (some ⟨b,0,none⟩))∧w.heap.size≤b∧vI w' b l 0 [] (.slice none 0 0)∧w.grownBy w' none
theorem ou (l:List Tok) (q:Option Addr) (c:Nat) (w:World) (hl:l.length≤100000) (hs:tT l) (h:TAt w q l):
  Calls Tryz.prog 39 #[.slice q l.length c] w (Gb l w):=by
 have HT:=zh (rk l q c w hl hs h)
 have HP:Hid (∀w' p c,ak 4 105 w' w.heap.size (.slice p l.length c) (mo l)→w.grownBy w' none→Gb l w (.returned (.pointer (some ⟨w'.heap.size,0,none⟩))) (w'.alloc (.cells #[.slice p l.length c,.int .i64 0,.slice none 0 0] 149))):=zh (fun w' p c ho hg=>by
  have dG:=World.grownBy_alloc w' (.cells #[.slice p l.length c,.int .i64 0,.slice none 0 0] 149) none
  obtain⟨p',c',e,ht,h1,-,-⟩:=ho.is
  rw [kh] at e h1
  injection e with e1 e2 e3
  subst e1;subst e3
  refine⟨w'.heap.size,rfl,hg.size,⟨p,c,fun _=>(none,0),heap_alloc_new w' _,h1,(CV ht).kept dG,fun h0 a ha=>?_,ak.nil _ _ _ _,fun i x hx=>by simp at hx,fun i x hx=>by simp at hx⟩,aa hg dG⟩
  obtain⟨g,off,e,hlt,-⟩:=(CV ht).resolve_left h0
  rw [ha] at e;cases e;exact hlt)
 have zg:Hid (∀v w',ak 4 105 w' w.heap.size v (mo l)→∃p c,v=.slice p l.length c):=zh (fun v w' ho=>by
  obtain⟨p',c',e,-⟩:=ho.is
  rw [kh] at e
  exact⟨p',c',e⟩)
 obtain⟨m,hm⟩:∃m,l.length=m:=⟨_,rfl⟩
 rw [hm] at HT HP zg ⊢
 clear hm h hs hl
 go_enter Tryz.func39,Tryz.ntmps39
 go_wp2_with fail
 refine HT.out.mono ?_
 rintro e w1 ⟨v,rfl,ho,hg⟩
 obtain⟨p,c',rfl⟩:=zg.out _ _ ho
 have HO:=zh ho;have HG:=zh hg
 clear ho hg
 go_wp2_with fail
 go_ret
 exact HP.out _ _ _ HO.out HG.out
theorem Bld.setUsed {w:World} {b:Nat} {pt:Option Addr} {ct:Nat} {l:List Tok} {u:Nat} {vn:Value} {N:List Nd} {K:Kf} (h:Bld w b pt ct l u vn N K) (u':Nat):Bld (w.setCell ⟨b,1,none⟩ (.int .i64 (u':Int))) b pt ct l u' vn N K:=by
 have hf:=Fr2.setCell (S:=fun k=>k=b) (Fr2.refl _ w) (g:=b) (j:=1) rfl (.int .i64 (u':Int))
 refine⟨ab (i:=1) (u:=.int .i64 (u':Int)) h.box,h.cap,h.toks.keptF hf (fun h0 a ha e=>by have:=h.tlow h0 a ha;omega),h.tlow,h.own.keptF hf (fun k e e2=>by have:=(h.turn k e).1;omega),fun i x hx=>(h.kids i x hx).keptF hf fun h0 a ha e=>?_,fun i x hx hn a ha=>?_⟩
 ·have:=(h.khi i x hx (eB h0) a ha).1;omega
 ·obtain⟨h1,h2,h3⟩:=h.khi i x hx hn a ha
  exact⟨h1,zn h2 hf.size,h3⟩
theorem wh (b:Nat) (l:List Tok) (u:Nat) (N:List Nd) (vn:Value) (kind:Int) (kids:List Int) (q:Option Addr) (c:Nat) (w:World) (hN:N.length≤100000) (hk:kids.length≤100000) (h:vI w b l u N vn) (hq:VAt w q (bo kids)) (oS:okB N.length kids=false):
  Calls Tryz.prog 45 #[.pointer (some ⟨b,0,none⟩),.int .i64 kind,.slice q kids.length c] w (aR (.int .i64 (-1)) w):=by
 obtain⟨pt,ct,K,h⟩:=h
 have eN:=h.box
 obtain⟨pv,cv,e1,-,-,-⟩:=h.own.is
 rw [iX] at e1
 subst e1
 have HE:=zh (rs N.length kids q c w (by omega) (by omega) hq)
 rw [oS] at HE
 obtain⟨m,hm⟩:∃m,l.length=m:=⟨_,rfl⟩
 obtain⟨M,hM⟩:∃M,N.length=M:=⟨_,rfl⟩
 obtain⟨kl,jo⟩:∃kl,kids.length=kl:=⟨_,rfl⟩
 rw [hm,hM] at eN
 rw [hM,jo] at HE
 rw [jo]
 obtain⟨d0,d1,d2,d3⟩:=dO eN
 clear eN hm h hM jo oS hq hk hN
 go_enter Tryz.func45,Tryz.ntmps45
 go_wp2_with fail
 refine HE.out.mono ?_
 rintro e w1 ⟨rfl,hg⟩
 have HG:=zh hg
 clear hg
 go_wp2_with fail
 go_ret
 exact⟨rfl,HG.out⟩
end Go.Proofs.YtjbgnopnehgbaaaGreatDoor
