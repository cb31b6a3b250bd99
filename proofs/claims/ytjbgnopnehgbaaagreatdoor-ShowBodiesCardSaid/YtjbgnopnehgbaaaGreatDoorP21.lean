/- Lemmas. -/
import Derived.Test.YtjbgnopnehgbaaaGreatDoorP20
set_option linter.unusedVariables false
set_option linter.unusedSimpArgs false
set_option maxHeartbeats 8000000
set_option maxRecDepth 100000
namespace Go.Proofs.YtjbgnopnehgbaaaGreatDoor
open Go.RowKit
theorem XP (T:List Tok) (p:Option Addr) (c:Nat) (w:World) (hT:T.length≤150000) (h0:0<T.length) (cg:fy w) (ht:TAt w p T):
  Calls Tryz.prog 97 #[.int .i64 10,.slice p T.length c] w (cF (bJ 10 (tkT T) []) w):=by
 obtain⟨g,off,rfl,gc,t0,t1,t2,t3⟩:=bQ ht (i:=0) h0
 rw [Nat.zero_mul,Nat.add_zero] at t0 t1 t2 t3
 have HX:Hid (∀w',w.grownBy w' none→cF (bJ 10 (tkT T) []) w (.returned (.agg #[.int .i64 (qW (tkT T 0).text:Nat),.string ⟨#[]⟩,.string ⟨#[]⟩,.bool false,.slice none 0 0,.bool false,.slice none 0 0,.int .i64 ((tkT T 0).pos:Int)])) w'):=zh (fun w' hg=>⟨hg,_,rfl,gv (by unfold qW;split<;>omega),rfl⟩)
 have HC:Hid (∀W,fy W→Calls Tryz.prog 126 #[.string ⟨(tkT T 0).text.toArray⟩] W (aR (.int .i64 (qW (tkT T 0).text:Nat)) W)):=zh (fun W h=>by have:=Mv ⟨(tkT T 0).text.toArray⟩ W h;exact this)
 have ip:=zh cg
 generalize qW (tkT T 0).text=opn at *
 have OK:=zh ht
 obtain⟨m,hm⟩:∃m,T.length=m:=⟨_,rfl⟩
 have HM:=zh hm
 have zW:=h0
 rw [hm] at zW ⊢
 have z0:decide (0<m)=true:=zd zW
 have SE:decide ((0:Int)<(m:Int))=true:=zd (by omega)
 unfold aw at t1 t2
 generalize (⟨(tkT T 0).lead.toArray⟩:ByteArray)=le at *
 generalize (⟨(tkT T 0).text.toArray⟩:ByteArray)=te at *
 generalize (tkT T 0).kind=k at *
 generalize (tkT T 0).pos=ps at *
 clear ht hm hT h0 cg
 go_enter Tryz.func97,Tryz.ntmps97
 go_wp2_with fail
 obtain⟨W,b0,b1,b2,hW,e0,e1,e2,ge,ik,gS,jC,zR,zX⟩:=three w (.cells #[.int .i64 0,.string ⟨#[]⟩,.string ⟨#[]⟩,.bool false,.slice none 0 0,.bool false,.slice none 0 0,.int .i64 0] 30) (.cells #[.int .i64 (k:Int),.string le,.string te,.int .i64 (ps:Int)] 105) (.cells #[.int .i64 0,.string ⟨#[]⟩,.string ⟨#[]⟩,.bool false,.slice none 0 0,.bool false,.slice none 0 0,.int .i64 (ps:Int)] 30)
 have f9:=zh ge;have iV:=zh ik;have fu:=zh gS;have da:=zh jC
 have kD:=zh e0
 clear ge ik gS jC
 try rw [←hW]
 try rw [e2]
 try rw [e1]
 try rw [e0]
 clear e0 e1 e2 hW
 refine(HC.out _ (ip.out.kept da.out)).mono ?_
 rintro e w1 ⟨rfl,bI⟩
 have ge:=bx bI f9.out;have ik:=bx bI iV.out;have gS:=bx bI fu.out
 have f9:=zh ge;have fu:=zh gS;have cZ:=zh (aa da.out bI)
 obtain⟨a0,a1,a2,a3,a4,a5,a6,a7,a8⟩:=bD ge
 obtain⟨c0,c1,c2,c3,c4,c5,c6,c7,c8⟩:=bD gS
 clear bI ge ik gS
 have es:Hid (Fr2 (fun k=>k=b0∨k=b2) w1 (w1.setCell ⟨b2,0,none⟩ (.int .i64 (opn:Int)))):=zh ((Fr2.refl (fun k=>k=b0∨k=b2) w1).setCell (g:=b2) (j:=0) (.inr rfl) (.int .i64 (opn:Int)))
 have Cv:=zh (((Fr2.refl (fun k=>k=b2) w1).setCell (g:=b2) (j:=0) rfl (.int .i64 (opn:Int))).keep f9.out (by omega))
 go_wp2_with fail
 obtain⟨hp,hf⟩:=nC Cv.out (.int .i64 (opn:Int)) (.string ⟨#[]⟩) (.string ⟨#[]⟩) (.bool false) (.slice none 0 0) (.bool false) (.slice none 0 0) (.int .i64 (ps:Int))
 obtain⟨k0,k1,k2,k3,k4,k5,k6,k7,-⟩:=bD hp
 have wb:=zh (Fr2.after cZ.out (es.out.trans (hf.mono (fun _ h=>.inl h))) (fun j hj=>by have:=kD.out;rcases hj with h | h<;>omega))
 refine bodyPost_ret (v:=.agg #[.int .i64 (opn:Int),.string ⟨#[]⟩,.string ⟨#[]⟩,.bool false,.slice none 0 0,.bool false,.slice none 0 0,.int .i64 (ps:Int)]) (by simp [results,Tryz.results97,go_sem,k0,k1,k2,k3,k4,k5,k6,k7]) rfl (HX.out _ wb.out)
theorem X5 (T:List Tok) (p:Option Addr) (c:Nat) (w:World) (hT:T.length≤150000) (h0:0<T.length) (ht:TAt w p T):
  Calls Tryz.prog 97 #[.int .i64 11,.slice p T.length c] w (cF (bJ 11 (tkT T) []) w):=by
 obtain⟨g,off,rfl,gc,t0,t1,t2,t3⟩:=bQ ht (i:=0) h0
 rw [Nat.zero_mul,Nat.add_zero] at t0 t1 t2 t3
 have HX:Hid (∀w',w.grownBy w' none→cF (bJ 11 (tkT T) []) w (.returned (.agg #[.int .i64 (unE (tkT T 0).text:Nat),.string ⟨#[]⟩,.string ⟨#[]⟩,.bool false,.slice none 0 0,.bool false,.slice none 0 0,.int .i64 ((tkT T 0).pos:Int)])) w'):=zh (fun w' hg=>⟨hg,_,rfl,gv (by unfold unE;split<;>omega),rfl⟩)
 have HC:Hid (∀W,Calls Tryz.prog 127 #[.string ⟨(tkT T 0).text.toArray⟩] W (aR (.int .i64 (unE (tkT T 0).text:Nat)) W)):=zh (fun W=>by have:=Qx ⟨(tkT T 0).text.toArray⟩ W;exact this)
 generalize unE (tkT T 0).text=opn at *
 have OK:=zh ht
 obtain⟨m,hm⟩:∃m,T.length=m:=⟨_,rfl⟩
 have HM:=zh hm
 have zW:=h0
 rw [hm] at zW ⊢
 have z0:decide (0<m)=true:=zd zW
 have SE:decide ((0:Int)<(m:Int))=true:=zd (by omega)
 unfold aw at t1 t2
 generalize (⟨(tkT T 0).lead.toArray⟩:ByteArray)=le at *
 generalize (⟨(tkT T 0).text.toArray⟩:ByteArray)=te at *
 generalize (tkT T 0).kind=k at *
 generalize (tkT T 0).pos=ps at *
 clear ht hm hT h0
 go_enter Tryz.func97,Tryz.ntmps97
 go_wp2_with fail
 obtain⟨W,b0,b1,b2,hW,e0,e1,e2,ge,ik,gS,jC,zR,zX⟩:=three w (.cells #[.int .i64 0,.string ⟨#[]⟩,.string ⟨#[]⟩,.bool false,.slice none 0 0,.bool false,.slice none 0 0,.int .i64 0] 30) (.cells #[.int .i64 (k:Int),.string le,.string te,.int .i64 (ps:Int)] 105) (.cells #[.int .i64 0,.string ⟨#[]⟩,.string ⟨#[]⟩,.bool false,.slice none 0 0,.bool false,.slice none 0 0,.int .i64 (ps:Int)] 30)
 have f9:=zh ge;have iV:=zh ik;have fu:=zh gS;have da:=zh jC
 have kD:=zh e0
 clear ge ik gS jC
 try rw [←hW]
 try rw [e2]
 try rw [e1]
 try rw [e0]
 clear e0 e1 e2 hW
 refine(HC.out _).mono ?_
 rintro e w1 ⟨rfl,bI⟩
 have ge:=bx bI f9.out;have ik:=bx bI iV.out;have gS:=bx bI fu.out
 have f9:=zh ge;have fu:=zh gS;have cZ:=zh (aa da.out bI)
 obtain⟨a0,a1,a2,a3,a4,a5,a6,a7,a8⟩:=bD ge
 obtain⟨c0,c1,c2,c3,c4,c5,c6,c7,c8⟩:=bD gS
 clear bI ge ik gS
 have es:Hid (Fr2 (fun k=>k=b0∨k=b2) w1 (w1.setCell ⟨b2,0,none⟩ (.int .i64 (opn:Int)))):=zh ((Fr2.refl (fun k=>k=b0∨k=b2) w1).setCell (g:=b2) (j:=0) (.inr rfl) (.int .i64 (opn:Int)))
 have Cv:=zh (((Fr2.refl (fun k=>k=b2) w1).setCell (g:=b2) (j:=0) rfl (.int .i64 (opn:Int))).keep f9.out (by omega))
 go_wp2_with fail
 obtain⟨hp,hf⟩:=nC Cv.out (.int .i64 (opn:Int)) (.string ⟨#[]⟩) (.string ⟨#[]⟩) (.bool false) (.slice none 0 0) (.bool false) (.slice none 0 0) (.int .i64 (ps:Int))
 obtain⟨k0,k1,k2,k3,k4,k5,k6,k7,-⟩:=bD hp
 have wb:=zh (Fr2.after cZ.out (es.out.trans (hf.mono (fun _ h=>.inl h))) (fun j hj=>by have:=kD.out;rcases hj with h | h<;>omega))
 refine bodyPost_ret (v:=.agg #[.int .i64 (opn:Int),.string ⟨#[]⟩,.string ⟨#[]⟩,.bool false,.slice none 0 0,.bool false,.slice none 0 0,.int .i64 (ps:Int)]) (by simp [results,Tryz.results97,go_sem,k0,k1,k2,k3,k4,k5,k6,k7]) rfl (HX.out _ wb.out)
theorem MG (T:List Tok) (p:Option Addr) (c:Nat) (w:World) (hT:T.length≤150000) (h0:0<T.length) (h1:1<T.length) (h2:(tkT T 1).text = [46]→2<T.length) (ht:TAt w p T):
  Calls Tryz.prog 97 #[.int .i64 13,.slice p T.length c] w (cF (bJ 13 (tkT T) []) w):=by
 obtain⟨g,off,rfl,gc,t0,t1,t2,t3⟩:=bQ ht (i:=0) h0
 rw [Nat.zero_mul,Nat.add_zero] at t0 t1 t2 t3
 have HX:Hid (∀w',w.grownBy w' none→cF (bJ 13 (tkT T) []) w (.returned (.agg #[.int .i64 24,aw (if (tkT T 1).text = [46] then (tkT T 2).text else (tkT T 0).text),aw (if (tkT T 1).text = [46] then (tkT T 0).text else []),.bool false,.slice none 0 0,.bool false,.slice none 0 0,.int .i64 ((tkT T 0).pos:Int)])) w'):=zh (fun w' hg=>⟨hg,_,rfl,(by
  have e:bJ 13 (tkT T) []=.mk 24 (if (tkT T 1).text = [46] then (tkT T 2).text else (tkT T 0).text) (if (tkT T 1).text = [46] then (tkT T 0).text else []) [] false [] (tkT T 0).pos:=by
   show(if (tkT T 1).text = [46] then _ else _)=_
   split<;>rfl
  rw [e]
  exact gv (by decide)),rfl⟩)
 have HC:=zh (fun W h=>MD T (some ⟨g,off,none⟩) c W hT h1 h2 h)
 unfold aw at HX HC
 generalize (⟨(if (tkT T 1).text = [46] then (tkT T 2).text else (tkT T 0).text).toArray⟩:ByteArray)=nm at *
 generalize (⟨(if (tkT T 1).text = [46] then (tkT T 0).text else []).toArray⟩:ByteArray)=md at *
 have OK:=zh ht
 obtain⟨m,hm⟩:∃m,T.length=m:=⟨_,rfl⟩
 have HM:=zh hm
 rw [hm] at HC
 have zW:=h0
 rw [hm] at zW ⊢
 have z0:decide (0<m)=true:=zd zW
 have SE:decide ((0:Int)<(m:Int))=true:=zd (by omega)
 unfold aw at t1 t2
 generalize (⟨(tkT T 0).lead.toArray⟩:ByteArray)=le at *
 generalize (⟨(tkT T 0).text.toArray⟩:ByteArray)=te at *
 generalize (tkT T 0).kind=k at *
 generalize (tkT T 0).pos=ps at *
 clear ht hm hT h0 h1 h2
 go_enter Tryz.func97,Tryz.ntmps97
 go_wp2_with fail
 obtain⟨W,b0,b1,b2,hW,e0,e1,e2,ge,ik,gS,jC,zR,zX⟩:=three w (.cells #[.int .i64 0,.string ⟨#[]⟩,.string ⟨#[]⟩,.bool false,.slice none 0 0,.bool false,.slice none 0 0,.int .i64 0] 30) (.cells #[.int .i64 (k:Int),.string le,.string te,.int .i64 (ps:Int)] 105) (.cells #[.int .i64 24,.string ⟨#[]⟩,.string ⟨#[]⟩,.bool false,.slice none 0 0,.bool false,.slice none 0 0,.int .i64 (ps:Int)] 30)
 have f9:=zh ge;have iV:=zh ik;have fu:=zh gS;have da:=zh jC
 have kD:=zh e0
 clear ge ik gS jC
 try rw [←hW]
 try rw [e2]
 try rw [e1]
 try rw [e0]
 clear e0 e1 e2 hW
 refine(HC.out _ (OK.out.kept da.out)).mono ?_
 rintro e w1 ⟨rfl,bI⟩
 have ge:=bx bI f9.out;have ik:=bx bI iV.out;have gS:=bx bI fu.out
 have f9:=zh ge;have fu:=zh gS;have cZ:=zh (aa da.out bI)
 obtain⟨a0,a1,a2,a3,a4,a5,a6,a7,a8⟩:=bD ge
 obtain⟨c0,c1,c2,c3,c4,c5,c6,c7,c8⟩:=bD gS
 clear bI ge ik gS
 have es:Hid (Fr2 (fun k=>k=b0∨k=b2) w1 ((w1.setCell ⟨b2,2,none⟩ (.string md)).setCell ⟨b2,1,none⟩ (.string nm))):=zh (((Fr2.refl (fun k=>k=b0∨k=b2) w1).setCell (g:=b2) (j:=2) (.inr rfl) (.string md)).setCell (g:=b2) (j:=1) (.inr rfl) (.string nm))
 have Cv:=zh ((((Fr2.refl (fun k=>k=b2) w1).setCell (g:=b2) (j:=2) rfl (.string md)).setCell (g:=b2) (j:=1) rfl (.string nm)).keep f9.out (by omega))
 go_wp2_with fail
 obtain⟨hp,hf⟩:=nC Cv.out (.int .i64 24) (.string nm) (.string md) (.bool false) (.slice none 0 0) (.bool false) (.slice none 0 0) (.int .i64 (ps:Int))
 obtain⟨k0,k1,k2,k3,k4,k5,k6,k7,-⟩:=bD hp
 have wb:=zh (Fr2.after cZ.out (es.out.trans (hf.mono (fun _ h=>.inl h))) (fun j hj=>by have:=kD.out;rcases hj with h | h<;>omega))
 refine bodyPost_ret (v:=.agg #[.int .i64 24,.string nm,.string md,.bool false,.slice none 0 0,.bool false,.slice none 0 0,.int .i64 (ps:Int)]) (by simp [results,Tryz.results97,go_sem,k0,k1,k2,k3,k4,k5,k6,k7]) rfl (HX.out _ wb.out)
theorem WK (T:List Tok) (p:Option Addr) (c:Nat) (w:World) (hT:T.length≤150000) (h0:0<T.length) (mw:uB (tkT T 0).text) (ht:TAt w p T):
  Calls Tryz.prog 97 #[.int .i64 15,.slice p T.length c] w (cF (bJ 15 (tkT T) []) w):=by
 obtain⟨g,off,rfl,gc,t0,t1,t2,t3⟩:=bQ ht (i:=0) h0
 rw [Nat.zero_mul,Nat.add_zero] at t0 t1 t2 t3
 have HX:Hid (∀w' s q n c',w.grownBy w' none→Zd.IsInt w' (.agg #[.bool s,.slice q n c']) (Zd.parseV (tkT T 0).text)→(0<n→∃a,q=some a∧w.heap.size≤a.block)→cF (bJ 15 (tkT T) []) w (.returned (.agg #[.int .i64 1,.string ⟨#[]⟩,.string ⟨#[]⟩,.bool s,.slice q n c',.bool false,.slice none 0 0,.int .i64 ((tkT T 0).pos:Int)])) w'):=zh (fun w' s q n c' hg hi hf=>⟨hg,_,rfl,(by
  show EAt _ _ (.mk 1 [] [] (tkT T 0).text false [] (tkT T 0).pos) _
  simp only [EAt]
  exact⟨s,q,n,c',none,0,[],rfl,by unfold dV;rw [if_pos rfl];exact⟨hi,(mJ mw).1,hf⟩,GAt.nil,by simp [LsE],fun h=>absurd rfl h⟩),rfl⟩)
 have HC:Hid (∀W,Calls Tryz.prog 12 #[.string ⟨(tkT T 0).text.toArray⟩] W (Zd.ParsePost (tkT T 0).text W)):=zh (fun W=>by have:=Zd.Parse_c ⟨(tkT T 0).text.toArray⟩ W;exact this)
 have HPE:Hid (Zd.parseE (tkT T 0).text=0):=zh (mJ mw).1
 have OK:=zh ht
 obtain⟨m,hm⟩:∃m,T.length=m:=⟨_,rfl⟩
 have HM:=zh hm
 have zW:=h0
 rw [hm] at zW ⊢
 have z0:decide (0<m)=true:=zd zW
 have SE:decide ((0:Int)<(m:Int))=true:=zd (by omega)
 unfold aw at t1 t2
 generalize (⟨(tkT T 0).lead.toArray⟩:ByteArray)=le at *
 generalize (⟨(tkT T 0).text.toArray⟩:ByteArray)=te at *
 generalize (tkT T 0).kind=k at *
 generalize (tkT T 0).pos=ps at *
 clear ht hm hT h0 mw
 go_enter Tryz.func97,Tryz.ntmps97
 go_wp2_with fail
 obtain⟨W,b0,b1,b2,hW,e0,e1,e2,ge,ik,gS,jC,zR,zX⟩:=three w (.cells #[.int .i64 0,.string ⟨#[]⟩,.string ⟨#[]⟩,.bool false,.slice none 0 0,.bool false,.slice none 0 0,.int .i64 0] 30) (.cells #[.int .i64 (k:Int),.string le,.string te,.int .i64 (ps:Int)] 105) (.cells #[.int .i64 1,.string ⟨#[]⟩,.string ⟨#[]⟩,.bool false,.slice none 0 0,.bool false,.slice none 0 0,.int .i64 (ps:Int)] 30)
 have f9:=zh ge;have iV:=zh ik;have fu:=zh gS;have da:=zh jC
 have kD:=zh e0
 have Yu:Hid (b2<W.heap.size):=zh (hlt gS)
 clear ge ik gS jC
 try rw [←hW]
 try rw [e2]
 try rw [e1]
 try rw [e0]
 clear e0 e1 e2 hW
 refine(HC.out _).mono ?_
 rintro e w1 ⟨x,rfl,hi,bI,Et⟩
 rw [HPE.out]
 obtain⟨s,p',n',c',rfl,hi'⟩:=Zd.int_parts hi
 have Ge:=zh (Et s p' n' c' rfl)
 clear hi Et
 have ge:=bx bI f9.out;have ik:=bx bI iV.out;have gS:=bx bI fu.out
 have f9:=zh ge;have fu:=zh gS;have cZ:=zh (aa da.out bI)
 obtain⟨a0,a1,a2,a3,a4,a5,a6,a7,a8⟩:=bD ge
 obtain⟨c0,c1,c2,c3,c4,c5,c6,c7,c8⟩:=bD gS
 clear bI ge ik gS
 have es:Hid (Fr2 (fun k=>k=b0∨k=b2) w1 ((w1.setCell ⟨b2,3,none⟩ (.bool s)).setCell ⟨b2,4,none⟩ (.slice p' n' c'))):=zh (((Fr2.refl (fun k=>k=b0∨k=b2) w1).setCell (g:=b2) (j:=3) (.inr rfl) (.bool s)).setCell (g:=b2) (j:=4) (.inr rfl) (.slice p' n' c'))
 have Cv:=zh ((((Fr2.refl (fun k=>k=b2) w1).setCell (g:=b2) (j:=3) rfl (.bool s)).setCell (g:=b2) (j:=4) rfl (.slice p' n' c')).keep f9.out (by omega))
 go_wp2_with fail
 obtain⟨hp,hf⟩:=nC Cv.out (.int .i64 1) (.string ⟨#[]⟩) (.string ⟨#[]⟩) (.bool s) (.slice p' n' c') (.bool false) (.slice none 0 0) (.int .i64 (ps:Int))
 obtain⟨k0,k1,k2,k3,k4,k5,k6,k7,-⟩:=bD hp
 have wb:=zh (Fr2.after cZ.out (es.out.trans (hf.mono (fun _ h=>.inl h))) (fun j hj=>by have:=kD.out;rcases hj with h | h<;>omega))
 refine bodyPost_ret (v:=.agg #[.int .i64 1,.string ⟨#[]⟩,.string ⟨#[]⟩,.bool s,.slice p' n' c',.bool false,.slice none 0 0,.int .i64 (ps:Int)]) (by simp [results,Tryz.results97,go_sem,k0,k1,k2,k3,k4,k5,k6,k7]) rfl (HX.out _ s p' n' c' wb.out (ti hi'.out (es.out.trans (hf.mono (fun _ h=>.inl h))) (fun h0 a ha hj=>by obtain⟨a',jE,MZ⟩:=Ge.out h0;rw [ha] at jE;injection jE with jE;subst jE;have:=da.out.size;have:=Yu.out;rcases hj with h | h<;>omega)) (fun h0=>by obtain⟨a',jE,MZ⟩:=Ge.out h0;exact⟨a',jE,Nat.le_trans da.out.size MZ⟩))
theorem aaP (T:List Tok) (p:Option Addr) (c:Nat) (w:World) (hT:T.length≤150000) (h0:0<T.length) (h1:1<T.length) (ht:TAt w p T):
  Calls Tryz.prog 97 #[.int .i64 7,.slice p T.length c] w (cF (bJ 7 (tkT T) []) w):=by
 obtain⟨g,off,rfl,gc,t0,t1,t2,t3⟩:=bQ ht (i:=0) h0
 rw [Nat.zero_mul,Nat.add_zero] at t0 t1 t2 t3
 obtain⟨g1,ae9,iE,-,-,-,u2,-⟩:=bQ ht (i:=1) h1
 injection iE with iE;injection iE with iE ee;subst iE ee
 rw [Nat.one_mul] at u2
 unfold aw at u2
 have HU2:=zh u2
 clear u2
 have HX:Hid (∀w',w.grownBy w' none→cF (bJ 7 (tkT T) []) w (.returned (.agg #[.int .i64 22,.string ⟨(tkT T 1).text.toArray⟩,.string ⟨#[]⟩,.bool false,.slice none 0 0,.bool false,.slice none 0 0,.int .i64 ((tkT T 0).pos:Int)])) w'):=zh (fun w' hg=>⟨hg,_,rfl,gv (by decide),rfl⟩)
 generalize (⟨(tkT T 1).text.toArray⟩:ByteArray)=y1 at *
 have OK:=zh ht
 obtain⟨m,hm⟩:∃m,T.length=m:=⟨_,rfl⟩
 have HM:=zh hm
 have zW:=h0
 rw [hm] at zW ⊢
 have z0:decide (0<m)=true:=zd zW
 have SE:decide ((0:Int)<(m:Int))=true:=zd (by omega)
 have ON:=h1
 rw [hm] at ON
 have z1:decide (1<m)=true:=zd ON
 have z1':decide ((1:Int)<(m:Int))=true:=zd (by omega)
 have FW:Hid (g<w.heap.size):=zh gc
 unfold aw at t1 t2
 generalize (⟨(tkT T 0).lead.toArray⟩:ByteArray)=le at *
 generalize (⟨(tkT T 0).text.toArray⟩:ByteArray)=te at *
 generalize (tkT T 0).kind=k at *
 generalize (tkT T 0).pos=ps at *
 clear ht hm hT h0 h1
 go_enter Tryz.func97,Tryz.ntmps97
 go_wp2_with fail
 obtain⟨W,b0,b1,b2,hW,e0,e1,e2,ge,ik,gS,jC,zR,zX⟩:=three w (.cells #[.int .i64 0,.string ⟨#[]⟩,.string ⟨#[]⟩,.bool false,.slice none 0 0,.bool false,.slice none 0 0,.int .i64 0] 30) (.cells #[.int .i64 (k:Int),.string le,.string te,.int .i64 (ps:Int)] 105) (.cells #[.int .i64 0,.string ⟨#[]⟩,.string ⟨#[]⟩,.bool false,.slice none 0 0,.bool false,.slice none 0 0,.int .i64 (ps:Int)] 30)
 have f9:=zh ge;have iV:=zh ik;have fu:=zh gS;have da:=zh jC
 have kD:=zh e0
 clear ge ik jC
 try rw [←hW]
 try rw [e2]
 try rw [e1]
 try rw [e0]
 have pL:=da.out.cell HU2.out (by simp)
 have afF:g<b0:=by omega
 clear e0 e1 e2 hW gc t0 t1 t2 t3
 obtain⟨c0,c1,c2,c3,c4,c5,c6,c7,c8⟩:=bD gS
 go_region
 all_goals
  have es:Hid (Fr2 (fun k=>k=b0∨k=b2) W ((W.setCell ⟨b2,0,none⟩ (.int .i64 22)).setCell ⟨b2,1,none⟩ (.string y1)).drew):=zh (A6 (((Fr2.refl _ _).setCell (.inr rfl) _).setCell (.inr rfl) _))
  have Ov:=ab (i:=1) (u:=.string y1) (ab (i:=0) (u:=.int .i64 22) fu.out)
  have Jv:=((((Fr2.refl (fun k=>k=b2) W).setCell (g:=b2) (j:=0) rfl (.int .i64 22)).setCell (g:=b2) (j:=1) rfl (.string y1)).keep f9.out (by omega))
  have zV:Hid (((W.setCell ⟨b2,0,none⟩ (.int .i64 22)).setCell ⟨b2,1,none⟩ (.string y1)).drew.heap[b2]? = some (.cells #[.int .i64 22,.string y1,.string ⟨#[]⟩,.bool false,.slice none 0 0,.bool false,.slice none 0 0,.int .i64 (ps:Int)] 30 (0,0))):=zh Ov
  have Cv:Hid (((W.setCell ⟨b2,0,none⟩ (.int .i64 22)).setCell ⟨b2,1,none⟩ (.string y1)).drew.heap[b0]? = some (.cells #[.int .i64 0,.string ⟨#[]⟩,.string ⟨#[]⟩,.bool false,.slice none 0 0,.bool false,.slice none 0 0,.int .i64 0] 30 (0,0))):=zh Jv
  clear Ov Jv pL c0 c1 c2 c3 c4 c5 c6 c7 c8 gS
  generalize ((W.setCell ⟨b2,0,none⟩ (.int .i64 22)).setCell ⟨b2,1,none⟩ (.string y1)).drew=W2 at *
  obtain⟨c0,c1,c2,c3,c4,c5,c6,c7,c8⟩:=bD zV.out
  obtain⟨a0,a1,a2,a3,a4,a5,a6,a7,a8⟩:=bD Cv.out
  go_wp2_with fail
  obtain⟨hp,hf⟩:=nC Cv.out (.int .i64 22) (.string y1) (.string ⟨#[]⟩) (.bool false) (.slice none 0 0) (.bool false) (.slice none 0 0) (.int .i64 (ps:Int))
  obtain⟨k0,k1,k2,k3,k4,k5,k6,k7,-⟩:=bD hp
  have wb:=zh (Fr2.after da.out (es.out.trans (hf.mono (fun _ h=>.inl h))) (fun j hj=>by have:=kD.out;rcases hj with h | h<;>omega))
  refine bodyPost_ret (v:=.agg #[.int .i64 22,.string y1,.string ⟨#[]⟩,.bool false,.slice none 0 0,.bool false,.slice none 0 0,.int .i64 (ps:Int)]) (by simp [results,Tryz.results97,go_sem,k0,k1,k2,k3,k4,k5,k6,k7]) rfl (HX.out _ wb.out)
end Go.Proofs.YtjbgnopnehgbaaaGreatDoor
