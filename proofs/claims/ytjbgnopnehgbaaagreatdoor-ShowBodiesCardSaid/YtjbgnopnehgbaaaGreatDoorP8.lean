/- Lemmas. -/
import Derived.Test.YtjbgnopnehgbaaaGreatDoorP7
set_option linter.unusedVariables false
set_option linter.unusedSimpArgs false
set_option maxHeartbeats 8000000
set_option maxRecDepth 100000
namespace Go.Proofs.YtjbgnopnehgbaaaGreatDoor
open Go.RowKit
def Iw (t:Tok):Value:=.agg #[.int .i64 (t.kind:Int),aw t.lead,aw t.text,.int .i64 (t.pos:Int)]
theorem DO (b:Nat) (l:List Tok) (u:Nat) (N:List Nd) (vn:Value) (t:Tok) (w:World) (hl:l.length≤100000) (hu:u≤l.length) (hs:tT l) (ht:l[min u (l.length - 1)]? = some t) (h:vI w b l u N vn):
  Calls Tryz.prog 40 #[.pointer (some ⟨b,0,none⟩)] w (aR (Iw t) w):=by
 obtain⟨pt,ct,K,h⟩:=h
 have eN:=h.box
 have iO:0<l.length:=by have:=(List.getElem?_eq_some_iff.1 ht).1;omega
 obtain⟨Ot,Ov⟩:=hs t (List.mem_of_getElem? ht)
 obtain⟨g,off,rfl,gc,hc⟩:=h.toks.resolve_left (fun e=>by rw [e] at iO;simp at iO)
 obtain⟨j,hj⟩:∃j,min u (l.length - 1)=j:=⟨_,rfl⟩
 rw [hj] at ht
 obtain⟨c0,c1,c2,c3⟩:=hc j t ht
 unfold aw at c1 c2
 obtain⟨x,hx⟩:∃x:ByteArray,(⟨t.lead.toArray⟩:ByteArray)=x:=⟨_,rfl⟩
 obtain⟨y,hy⟩:∃y:ByteArray,(⟨t.text.toArray⟩:ByteArray)=y:=⟨_,rfl⟩
 have OS:x.size≤1000000:=by rw [←aM,←hx];exact Ot
 have jL:y.size≤1000000:=by rw [←aM,←hy];exact Ov
 have qY:Hid (Iw t=.agg #[.int .i64 (t.kind:Int),.string x,.string y,.int .i64 (t.pos:Int)]):=zh (by unfold Iw aw;rw [hx,hy])
 rw [hx] at c1
 rw [hy] at c2
 have IL:=zh (fun W=>tH (t.kind:Int) (t.pos:Int) x y W OS jL)
 rw [qY.out]
 generalize (t.kind:Int)=tk at *
 generalize (t.pos:Int)=tp at *
 have Ta:=(List.getElem?_eq_some_iff.1 ht).1
 obtain⟨m,hm⟩:∃m,l.length=m:=⟨_,rfl⟩
 rw [hm] at eN hl hu hj iO Ta
 obtain⟨m1,vk⟩:∃m1,m - 1=m1:=⟨_,rfl⟩
 rw [vk] at hj
 have rC:IntKind.i64.wrap ((m:Int) - 1)=(m1:Int):=by rw [IntWalk.i64_in _ (by omega)];omega
 have agG:min (u:Int) (m1:Int)=(j:Int):=by omega
 have e1:((m:Int) == 0)=false:=beq_eq_false_iff_ne.2 (by omega)
 have e2:(m == 0)=false:=beq_eq_false_iff_ne.2 (by omega)
 obtain⟨d0,d1,d2,d3⟩:=dO eN
 have mV:=j3 eN
 have Jq:=zh eN
 clear eN hm h hc hx hy OS jL Ot Ov ht vk hs qY
 go_enter Tryz.func40,Tryz.ntmps40
 go_wp2_with fail
 have hR:=heap_alloc_new w (.cells #[.int .i64 0,.string ⟨#[]⟩,.string ⟨#[]⟩,.int .i64 0] 105)
 have OM:=World.grownBy_alloc w (.cells #[.int .i64 0,.string ⟨#[]⟩,.string ⟨#[]⟩,.int .i64 0] 105) none
 have c0:=OM.cell c0 (by simp)
 have c1:=OM.cell c1 (by simp)
 have c2:=OM.cell c2 (by simp)
 have c3:=OM.cell c3 (by simp)
 obtain⟨d0,d1,d2,d3⟩:=dO (bx OM Jq.out)
 generalize (w.alloc (.cells #[.int .i64 0,.string ⟨#[]⟩,.string ⟨#[]⟩,.int .i64 0] 105))=W at *
 obtain⟨B,hB⟩:∃B,w.heap.size=B:=⟨_,rfl⟩
 have mD:=zh hB
 rw [hB] at hR ⊢
 have HR:=zh hR;have CK:=zh OM
 clear hR OM hB
 go_region_with (go_at_call 74;refine(IL.out _).mono ?_;rintro e w2 ⟨rfl,bT⟩;have tP:=bx bT HR.out;obtain⟨f0,f1,f2,f3,f4⟩:=iq tP;have IO:=zh tP;have cz:=zh (aa (show W.grownBy _ none from(by repeat (first | with_reducible exact ad _ _ | with_reducible refine aF ?_))) bT);clear bT tP)
 all_goals
  have Y9:=zh (ab (i:=3) (u:=.int .i64 tp) (ab (i:=2) (u:=.string y) (ab (i:=1) (u:=.string x) (ab (i:=0) (u:=.int .i64 tk) IO.out))))
  have jp:=zh ((((Fr2.setCell (S:=fun k=>k=B) (Fr2.refl _ w2) (g:=B) (j:=0) rfl (.int .i64 tk)).setCell (g:=B) (j:=1) rfl (.string x)).setCell (g:=B) (j:=2) rfl (.string y)).setCell (g:=B) (j:=3) rfl (.int .i64 tp))
  clear f0 f1 f2 f3 f4 d0 d1 d2 d3 c0 c1 c2 c3
  go_wp2_with fail
  obtain⟨k0,k1,k2,k3,-⟩:=iq Y9.out
  refine bodyPost_ret (v:=.agg #[.int .i64 tk,.string x,.string y,.int .i64 tp]) (by simp [results,Tryz.results40,go_sem,k0,k1,k2,k3]) rfl ⟨rfl,Fr2.after (aa CK.out cz.out) jp.out (fun j hj=>by rw [mD.out];omega)⟩
structure Aq (w:World) (base:Nat) (vn:Value) (N:List Nd) (K:Kf):Prop where
 own:ak 3 152 w base vn (l8 K N)
 kids:Ei w N K
 khi:∀(i:Nat) (x:Nd),N[i]? = some x→x.kids≠[]→∀a,(K i).1=some a→base≤a.block∧a.block<w.heap.size∧vn.ownBlock≠some a.block
theorem Aq.kept {w w':World} {base:Nat} {vn:Value} {N:List Nd} {K:Kf} (h:Aq w base vn N K) (hg:w.grownBy w' none):Aq w' base vn N K:=
 ⟨h.own.kept hg,fun i x hx=>(h.kids i x hx).kept hg,fun i x hx hn a ha=>by
  obtain⟨h1,h2,h3⟩:=h.khi i x hx hn a ha
  exact⟨h1,zn h2 hg.size,h3⟩⟩
theorem Aq.add {w w5:World} {base:Nat} {vn:Value} {N:List Nd} {K:Kf} (h:Aq w base vn N K) (hf:w.grownBy w5 vn.ownBlock) {g9 n9 cap9:Nat} {x:Nd} {p:Option Addr} {c:Nat}
  (ey:ak 3 152 w5 base (.slice (some ⟨g9,0,none⟩) n9 cap9) (l8 K N++[[.int .i64 x.kind,.int .i64 x.tok,.slice p x.kids.length c]])) (hk:VAt w p (bo x.kids)) (L6:x.kids≠[]→∀a,p=some a→base≤a.block∧vn.ownBlock≠some a.block)
  (ef:vn.ownBlock=some g9∨w.heap.size≤g9):∃K',Aq w5 base (.slice (some ⟨g9,0,none⟩) n9 cap9) (N++[x]) K':=by
 obtain⟨K',hK1,hK2⟩:=FK K N.length p c
 have dK:Fr2 (fun k=>vn.ownBlock=some k) w w5:=Fr2.of hf (fun k e=>e)
 have lz:∀(i:Nat) (y:Nd),(N++[x])[i]? = some y→(i<N.length∧N[i]? = some y∧K' i=K i)∨(i=N.length∧y=x∧K' i=(p,c)):=fun i y hy=>by
  by_cases hi:i<N.length
  ·rw [List.getElem?_append_left hi] at hy;exact .inl ⟨hi,hy,hK2 i (by omega)⟩
  ·have h1:=(List.getElem?_eq_some_iff.1 hy).1
   rw [List.length_append,List.length_singleton] at h1
   obtain rfl:i=N.length:=by omega
   rw [List.getElem?_append_right (Nat.le_refl _)] at hy
   simp at hy
   exact .inr ⟨rfl,hy.symm,hK1⟩
 have T4:∀k,(Value.slice (some ⟨g9,0,none⟩) n9 cap9).ownBlock=some k→g9=k:=fun k e=>by simpa [Value.ownBlock] using e
 refine⟨K',by rw [wX hK1 hK2];exact ey,fun i y hy=>?_,fun i y hy hn a ha=>?_⟩
 ·rcases lz i y hy with ⟨-,hy,e⟩ | ⟨-,rfl,e⟩
  ·rw [e]
   exact(h.kids i y hy).keptF dK fun h0 a ha=>(h.khi i y hy (eB h0) a ha).2.2
  ·rw [e]
   exact hk.keptF dK fun h0 a ha=>(L6 (eB h0) a ha).2
 ·rcases lz i y hy with ⟨-,hy,e⟩ | ⟨-,rfl,e⟩
  ·rw [e] at ha
   obtain⟨h1,h2,h3⟩:=h.khi i y hy hn a ha
   refine⟨h1,zn h2 dK.size,fun e9=>?_⟩
   have:=T4 _ e9
   subst this
   rcases ef with h | h
   ·exact h3 h
   ·omega
  ·rw [e] at ha
   obtain⟨h1,h3⟩:=L6 hn a ha
   have h2:=hk.lt (Aw hn) a ha
   refine⟨h1,zn h2 dK.size,fun e9=>?_⟩
   have:=T4 _ e9
   subst this
   rcases ef with h | h
   ·exact h3 h
   ·omega
end Go.Proofs.YtjbgnopnehgbaaaGreatDoor
