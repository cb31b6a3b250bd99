/- Lemmas. -/
import Derived.Test.YtjbgnopnehgbaaaGreatDoorP43
set_option linter.unusedVariables false
set_option linter.unusedSimpArgs false
set_option maxHeartbeats 32000000
set_option maxRecDepth 100000
namespace Go.Proofs.YtjbgnopnehgbaaaGreatDoor
open Go.RowKit
theorem Sj {w W9 wr:World} {b2 b3 ni ci nd cd:Nat} {pi pd:Option Addr} {P:Px} {rows:List (List Value)} {x0 x1:Value} {X:Nat→Prop} (h23:b2<b3) (hw:w.heap.size≤b2) (h9:b3<W9.heap.size) (hGr:w.grownBy wr none) (gS:wr.heap[b2]? = some (.cells #[x0,x1] 50 (0,0)))
  (hOi:ak 2 118 wr W9.heap.size (.slice pi ni ci) (P.imps.map sT)) (hOd:ak 15 55 wr W9.heap.size (.slice pd nd cd) rows) (hLS:eW (fun k=>b3+1≤k∧k<wr.heap.size∧¬X k) wr P.defs rows):
  yX P w (.returned (.agg #[.slice pi ni ci,.slice pd nd cd])) ((wr.setCell ⟨b2,0,none⟩ (.slice pi ni ci)).setCell ⟨b2,1,none⟩ (.slice pd nd cd)):=by
 obtain⟨hni,gi,bi⟩:=hOi.rows
 obtain⟨JA,gd,bd⟩:=hOd.rows
 rw [List.length_map] at hni
 rw [uY hLS] at JA
 subst hni;subst JA
 have hf:Fr2 (ez b2) wr ((wr.setCell ⟨b2,0,none⟩ (.slice pi P.imps.length ci)).setCell ⟨b2,1,none⟩ (.slice pd P.defs.length cd)):=((Fr2.refl _ _).setCell (bh b2) _).setCell (bh b2) _
 have hP:pI (fun k=>b3+1≤k) wr P [.slice pi P.imps.length ci,.slice pd P.defs.length cd]:=⟨pi,ci,pd,cd,rows,rfl,gi,gd,oI (fun k hk=>hk.1) hLS,fun h0=>by
  obtain⟨a,ha,h1⟩:=bi (fun e=>h0 (List.map_eq_nil_iff.1 e));exact⟨a,ha,by omega⟩,fun h0=>by
  obtain⟨a,ha,h1⟩:=bd (fun e=>h0 (by have:=uY hLS;rw [e] at this;exact List.eq_nil_of_length_eq_zero this.symm));exact⟨a,ha,by omega⟩⟩
 exact⟨Fr2.after hGr hf (fun j hj=>by have e:j=b2:=hj;omega),_,rfl,pI.mono (fun k hk=>by omega) (pI.same hf (fun k hk e=>by have e:k=b2:=e;omega) hP)⟩
theorem GE {T:List Tok} {N:List Nd} {K:Kf} (hT:T.length≤150000) (hN:N.length≤150000) {R kd:Nat} (hR:N.length - 1=R) {ks:List Int} {l:List Tr} (hx:N[R]? = some ⟨(kd:Int),-1,ks⟩) (jX:KT N R ks l) (lJ:ix l) (lH:∀i∈eo l,i<T.length) (db:dI l≤150000) (dp:∀t∈l,OkP T t) (vo:∀i,(tkT T i).pos≤1000000∧(tkT T i).text.length≤1000000) (pt pn:Option Addr) (ct cn:Nat) (w:World) (ht:TAt w pt T) (hn:aE w pn N K) (cg:fy w):
  Calls Tryz.prog 20 #[.agg #[.slice pt T.length ct,.slice pn N.length cn]] w (yX (cO T l) w):=by
 have ET:l.length≤150000:=Nat.le_trans (jk l) db
 have hnr:R<N.length:=(List.getElem?_eq_some_iff.1 hx).1
 have rh:=zh (fun (n:Nat) (x:Nd) W (hx:N[n]? = some x) h=>tL (K:=K) hN hx pt pn T.length ct cn W h)
 have xN:=zh (fun W h=>qz (K:=K) hN hx pt pn T.length ct cn W h)
 have IM:=zh (fun W=>Na pt pn T.length ct N.length cn (by omega) (by omega) W)
 rw [hR] at IM
 have IL:=zh (fun (n:Nat) (k:Nat) (ks:List Int) (l:List Tr) W (hx:N[n]? = some ⟨(k:Int),-1,ks⟩) (jX:KT N n ks l) (lJ:ix l) (lH:∀i∈eo l,i<T.length) (ET:l.length≤150000) h1 h2=>pW (K:=K) hT hN hx jX lJ lH ET pt pn ct cn W h1 h2)
 have HDF:=zh (fun (n k:Nat) (ks:List Int) (l:List Tr) (W:World) (hs:ShD T (.nd 3 l)) (hx:N[n]? = some ⟨(k:Int),-1,ks⟩) (jX:KT N n ks l) (lJ:ix l) (lH:∀i∈eo l,i<T.length) (db:dI l≤150000) (h1:TAt W pt T) (h2:aE W pn N K) (h3:fy W)=>(show Calls Tryz.prog 53 #[.agg #[.slice pt T.length ct,.slice pn N.length cn],.int .i64 (n:Int)] W (zE (Dw T l) W) from by
  obtain⟨o1,o2,⟨i0,o3⟩,⟨u,o4,o5,o6⟩,o7⟩:=VF hs
  exact ZS (K:=K) hT hN hx jX lJ lH db o1 o2 vo o3 o4 o5 o6 o7 pt pn ct cn W h1 h2 h3))
 have HX:=zh hx;have sD:=zh jX;have Js:=zh lJ;have vB:=zh lH;have pO:=zh db;have vu:=zh dp
 have HT:=zh ht;have HN:=zh hn;have gf:=zh cg
 obtain⟨mt,vM⟩:∃mt,T.length=mt:=⟨_,rfl⟩
 obtain⟨mn,sM⟩:∃mn,N.length=mn:=⟨_,rfl⟩
 obtain⟨M,hM⟩:∃M,ks.length=M:=⟨_,rfl⟩
 have R3:M=l.length:=by rw [←hM];exact jX.1
 have zA:=zh R3
 have hMm:M≤150000:=by omega
 rw [vM,sM] at rh xN IM IL HDF ⊢
 have xN:Hid (∀W,aE W pn N K→Calls Tryz.prog 49 #[.agg #[.slice pt mt ct,.slice pn mn cn],.int .i64 (R:Int)] W (aR (.slice (K R).1 M (K R).2) W)):=zh (fun W h=>by rw [←hM];exact xN.out W h)
 have AZ:=zh vM
 obtain⟨pk,nF⟩:∃pk,(K R).1=pk:=⟨_,rfl⟩
 have WV:=zh nF
 rw [nF] at xN
 generalize (K R).2=ck at *
 clear ht hn cg hx jX lJ lH db dp vo hT hN vM sM hM R3 ET nF hnr hR
 go_enter Tryz.func20,Tryz.ntmps20
 go_wp2_with fail
 obtain⟨W,b0,b2,b3,hW,e0,e1,e2,ge,gS,JM,jC,h02,h23⟩:=three w (.cells #[.slice pt mt ct,.slice pn mn cn] 73) (.cells #[.slice none 0 0,.slice none 0 0] 50) (.cells #[.slice none 0 0,.slice none 0 0] 50)
 have f9:=zh ge;have fu:=zh gS;have wP:=zh JM;have da:=zh jC;have kD:=zh e0
 clear ge gS JM jC
 try rw [←hW]
 try rw [e2]
 try rw [e1]
 try rw [e0]
 clear e0 e1 e2 hW
 have HNW:=zh (HN.out.kept da.out)
 obtain⟨a0,a1,a2⟩:=ah f9.out
 have jK:b0<W.heap.size:=hlt f9.out
 go_cut [11,12,13] (fun t11 t12 t13 wx=>Hid (t11=.slice pk M ck∧t12=.int .i64 (M:Int)∧t13=.int .i64 0∧W.grownBy wx none))
 case first=>
  go_region_held3 (fun w'=>w'.cell? ⟨b0,0,none⟩=some (.slice pt mt ct)∧w'.cell? ⟨b0,1,none⟩=some (.slice pn mn cn))
   (first | with_reducible exact⟨a0,a1⟩ | go_keep)
   (first
    | (go_at_call 50;refine(IM.out _).mono ?_;rintro e w5 ⟨rfl,jI⟩;have iD:=zh (aa (show W.grownBy _ none from gbx) jI);have s5:W.heap.size≤w5.heap.size:=iD.out.size;obtain⟨a0,a1,a2⟩:=ah (bx iD.out f9.out);clear jI)
    | (go_at_call 49;refine(xN.out _ (HNW.out.kept (aa iD.out gbx))).mono ?_;rintro e w6 ⟨rfl,dk⟩;have dQ:=zh (aa iD.out (aa (show w5.grownBy _ none from gbx) dk));have s6:W.heap.size≤w6.heap.size:=dQ.out.size;obtain⟨a0,a1,a2⟩:=ah (bx dQ.out f9.out);clear dk))
  all_goals
   go_wp2_with fail
   go_meet
   exact zh ⟨rfl,rfl,rfl,dQ.out⟩
 case rest=>
  obtain⟨rfl,rfl,rfl,pJ⟩:=hcut.out
  have HGC:=zh pJ
  have Xd:=zh (bx pJ f9.out);have af6:=zh (bx pJ fu.out);have aaD:=zh (bx pJ wP.out)
  have rr:=zh (aa da.out pJ)
  have AX:Hid (b3+1≤wc.heap.size):=zh (hlt aaD.out)
  clear hcut pJ a0 a1 a2 jK
  have hww:w.heap.size≤b2:=by have:=kD.out;omega
  go_wp2_with fail
  go_loopw [13] (fun iv wr=>∃(j:Nat) (rows:List (List Value)) (pi:Option Addr) (ni ci:Nat) (pd:Option Addr) (nd cd:Nat),j≤M∧iv=.int .i64 (j:Int)∧Hid (wr.heap[b3]? = some (.cells #[.slice pi ni ci,.slice pd nd cd] 50 (0,0)))∧Hid (ak 2 118 wr wc.heap.size (.slice pi ni ci) ((cO T (l.take j)).imps.map sT))∧Hid (ak 15 55 wr wc.heap.size (.slice pd nd cd) rows)∧Hid (Sep (.slice pi ni ci) (.slice pd nd cd))∧Hid (eW (fun k=>b3+1≤k∧k<wr.heap.size∧¬Wr3 b3 (.slice pi ni ci) (.slice pd nd cd) k) wr (cO T (l.take j)).defs rows)∧Hid (Fr2 (fun k=>k=b3) wc wr)) (fun iv _=>M - (intOf iv).toNat)
  case atStart=>exact⟨0,[],none,0,0,none,0,0,Nat.zero_le _,rfl,aaD,zh (by simp [cO];exact ak.nil _ _ _ _),zh (ak.nil _ _ _ _),zh (fun k h=>by cases h),zh (by simp [cO,eW]),zh (Fr2.refl _ _)⟩
  case round=>
   obtain⟨j,rows,pi,ni,ci,pd,nd,cd,hj,rfl,y7,Jk,Si,YX,ip,HF⟩:=hrel
   have j4:Hid (w.grownBy wr none):=zh (Fr2.after rr.out HF.out (fun i hi=>by have e:i=b3:=hi;omega))
   have iw:=zh (HF.out.keep Xd.out (by omega));have eM:=zh (HF.out.keep af6.out (by omega))
   have JU:Hid (b3+1≤wr.heap.size):=zh (Nat.le_trans AX.out HF.out.size)
   have Bv:=zh (HT.out.kept j4.out);have lu:=zh (HN.out.kept j4.out);have JD:=zh (gf.out.kept j4.out)
   obtain⟨a0,a1,a2⟩:=ah iw.out
   obtain⟨d0,d1,d2⟩:=ah y7.out
   have jK:b0<wr.heap.size:=hlt iw.out
   have ig:b3<wr.heap.size:=hlt y7.out
   by_cases hlj:j<M
   ·obtain⟨uj,wl⟩:∃u,l[j]? = some u:=⟨l[j]'(by have:=zA.out;omega),List.getElem?_eq_getElem _⟩
    obtain⟨k1,iP,eU,lz⟩:=sD.out.2 j uj wl
    obtain⟨gg,oo,Fi,mc,SO⟩:=gW (HN.out.2 R _ HX.out) iP
    rw [WV.out] at Fi
    subst Fi
    have SO:=j4.out.cell SO (by simp)
    have ak4:gg<wr.heap.size:=zn mc j4.out.size
    have y1:(0:Int)≤(j:Int):=by omega
    have y2:(j:Int)<(M:Int):=by omega
    have y3:decide (j<M)=true:=zd hlj
    have y4:decide ((j:Int)<(M:Int))=true:=zd y2
    have ir:=zh (Ip T wl)
    have ue:=zh (vu.out uj (List.mem_of_getElem? wl))
    obtain⟨pi',ci',hvi,-⟩:=Jk.out.is
    have MR:ni=((cO T (l.take j)).imps.map sT).length:=by injection hvi
    obtain⟨pd',cd',hvd,-⟩:=Si.out.is
    have RX:nd=rows.length:=by injection hvd
    have ZV:=MT T (l.take j)
    have qK:=List.length_take (i:=j) (l:=l)
    have Jw:Hid (((cO T (l.take j)).imps.map sT).length≤1000000):=zh (by rw [List.length_map];omega)
    have zP:Hid (rows.length≤1000000):=zh (by have h1:=uY ip.out;omega)
    clear hvi hvd ZV qK mc
    by_cases h2:dx uj=2
    ·cases uj with
     | lf i=>simp [dx] at h2
     | nd k' l'=>
       have h2:k'=2:=h2
       subst h2
       obtain⟨n',Ik,j5,jb,oh⟩:=eU.nd
       have j5:k1=n':=by omega
       subst j5
       have sx:=fB Js.out wl
       simp only [kOk] at sx
       have iS:=zh (rh.out k1 _ wr jb lu.out)
       obtain⟨i9,n9,m9,rfl⟩:=ue.out.1 l' rfl
       have Pw:=zh (fun W h1 h2=>IL.out k1 2 Ik [.lf i9,.lf n9,.lf m9] W jb oh sx.2.2 (fun z hz=>by rw [←AZ.out];exact vB.out z (gE wl z (by simp only [lvT];exact hz))) (by simp) h1 h2)
       obtain⟨tk,qK⟩:∃tk,(tkT T n9).kind=tk:=⟨_,rfl⟩
       obtain⟨tp,rR⟩:∃tp,(tkT T n9).pos=tp:=⟨_,rfl⟩
       obtain⟨yl,lL⟩:∃y:ByteArray,(⟨(tkT T n9).lead.toArray⟩:ByteArray)=y:=⟨_,rfl⟩
       obtain⟨yt,CB⟩:∃y:ByteArray,(⟨(tkT T n9).text.toArray⟩:ByteArray)=y:=⟨_,rfl⟩
       have rW:Hid (∀(W:World) (p:Option Addr),TAt W p ((aX [Tr.lf i9,Tr.lf n9,Tr.lf m9]).map (tkT T))→∃g off,p=some ⟨g,off,none⟩∧g<W.heap.size∧W.cell? ⟨g,off+4,none⟩=some (.int .i64 (tk:Int))∧W.cell? ⟨g,off+4+1,none⟩=some (.string yl)∧W.cell? ⟨g,off+4+2,none⟩=some (.string yt)∧W.cell? ⟨g,off+4+3,none⟩=some (.int .i64 (tp:Int))):=zh (fun W p h=>by
        obtain⟨g2,Be,ee,vA,c0,c1,c2,c3⟩:=bQ h (i:=1) (by simp [aX])
        have e0:tkT ((aX [Tr.lf i9,Tr.lf n9,Tr.lf m9]).map (tkT T)) 1=tkT T n9:=by simp [tkT,aX]
        rw [e0,Nat.one_mul] at c0 c1 c2 c3
        unfold aw at c1 c2
        rw [qK] at c0;rw [lL] at c1;rw [CB] at c2;rw [rR] at c3
        exact⟨g2,Be,ee,vA,c0,c1,c2,c3⟩)
       have Pw:Hid (∀W,TAt W pt T→aE W pn N K→Calls Tryz.prog 52 #[.agg #[.slice pt mt ct,.slice pn mn cn],.int .i64 (k1:Int)] W (fun e w'=>W.grownBy w' none∧∃p c,e=.returned (.slice p 3 c)∧TAt w' p ((aX [Tr.lf i9,Tr.lf n9,Tr.lf m9]).map (tkT T)))):=Pw
       have PA:Hid ((cO T (l.take (j+1))).imps.map sT=(cO T (l.take j)).imps.map sT++[[.string yt,.int .i64 (tp:Int)]]∧(cO T (l.take (j+1))).defs=(cO T (l.take j)).defs):=zh ⟨by
        rw [ir.out.1,if_pos (show dx (.nd 2 [Tr.lf i9,Tr.lf n9,Tr.lf m9])=2 from rfl),List.map_append]
        congr 1
        show [sT (Pu T [Tr.lf i9,Tr.lf n9,Tr.lf m9])]=_
        have e1:Pu T [Tr.lf i9,Tr.lf n9,Tr.lf m9]=((tkT T n9).text,(tkT T n9).pos):=rfl
        rw [e1];unfold sT aw;rw [CB,rR],by rw [ir.out.2,if_neg (show ¬dx (.nd 2 [Tr.lf i9,Tr.lf n9,Tr.lf m9])=3 by simp [dx]),List.append_nil]⟩
       obtain⟨LI,hLI⟩:∃LI,(cO T (l.take j)).imps.map sT=LI:=⟨_,rfl⟩
       rw [hLI] at PA Jk Jw MR
       have HNI:=zh MR
       clear wl iP eU lz jb oh sx qK rR lL CB ue ir RX hLI MR
       go_wp2_with fail
       refine iS.out.mono ?_
       rintro e w6 ⟨rfl,dk⟩
       have dQ:=zh dk
       clear a0 a1 a2 d0 d1 d2
       obtain⟨a0,a1,a2⟩:=ah (bx dk iw.out)
       have jK:b0<w6.heap.size:=zn jK dk.size
       clear dk iS
       go_wp2_with fail
       refine(Pw.out _ (Bv.out.kept dQ.out) (lu.out.kept dQ.out)).mono ?_
       rintro e w7 ⟨iG,pr,cr,rfl,Zr⟩
       obtain⟨gr,aem,rfl,OH,r0,r1,r2,r3⟩:=rW.out _ _ Zr
       have gT:=zh (aa dQ.out iG)
       obtain⟨d0,d1,d2⟩:=ah (bx gT.out y7.out)
       have ig:b3<w7.heap.size:=hlt (bx gT.out y7.out)
       have vO:=zh (Jk.out.kept gT.out)
       have HS7:Hid (wc.heap.size≤w7.heap.size):=zh (Nat.le_trans HF.out.size gT.out.size)
       clear iG Pw Zr rW a0 a1 a2
       go_wp2_with (at_builtin;go_loud (refine el (s:=2) (t:=47) (T:=118) (by decide) Tryz.underlying47 VD rfl (by omega) rfl _ _ rfl wc.heap.size LI [.string yt,.int .i64 (tp:Int)] rfl (fun u hu=>by simp at hu;rcases hu with rfl | rfl<;>rfl) (.slice pi ni ci) rfl (ak.kept vO.out (ae (ae (ad w7 _) (.cells #[.int .i64 (tk:Int),.string yl,.string yt,.int .i64 (tp:Int)] 105)) (.cells #[.string yt,.int .i64 (tp:Int)] 118))) (w7.heap.size+1) _ rfl (by have h:=heap_alloc_new (w7.alloc (.cells #[.int .i64 (tk:Int),.string yl,.string yt,.int .i64 (tp:Int)] 105)) (.cells #[.string yt,.int .i64 (tp:Int)] 118);simpa using h) rfl Jw.out (by have:=HS7.out;simp;omega) (w7.heap.size+2) (by simp) ?_))
       obtain⟨W8,OR⟩:∃W8,w7.alloc (.cells #[.int .i64 (tk:Int),.string yl,.string yt,.int .i64 (tp:Int)] 105)=W8:=⟨_,rfl⟩
       have zC:W8.heap.size=w7.heap.size+1:=by rw [←OR];simp
       have jl:Hid (wr.grownBy W8 none):=zh (by rw [←OR];exact ae gT.out _)
       have aaX:=zh (bx jl.out y7.out)
       have HS8:Hid (wc.heap.size≤W8.heap.size):=zh (Nat.le_trans HF.out.size jl.out.size)
       have HO8:=zh (Jk.out.kept jl.out)
       rw [OR]
       clear r0 r1 r2 r3 d0 d1 d2 ig OR
       have ig:b3<W8.heap.size:=hlt aaX.out
       intro g9 cap9 w9 ii eu ef
       have dG:W8.grownBy (W8.alloc (.cells #[.string yt,.int .i64 (tp:Int)] 118)) none:=World.grownBy_alloc _ _ _
       have SM:∀k,(Value.slice pd nd cd).ownBlock=some k→k<wr.heap.size:=fun k e=>(ak.at Si.out k e).2
       have adX:=jl.out.size
       have Rg:=(eu.block b3 (by simp;omega) (fun e=>by have:=(ak.at HO8.out b3 e.symm).1;have:=AX.out;omega)).trans (show _=_ from bx dG aaX.out)
       obtain⟨d0,d1,d2⟩:=ah Rg
       have ig:b3<w9.heap.size:=hlt Rg
       have alG:Hid (LI.length+1≤1000001):=zh (by have:=Jw.out;omega)
       have qv:Hid ((w9.setCell ⟨b3,0,none⟩ (.slice (some ⟨g9,0,none⟩) (LI.length+1) cap9)).heap[b3]? = some (.cells #[.slice (some ⟨g9,0,none⟩) (LI.length+1) cap9,.slice pd nd cd] 50 (0,0))):=zh (ab (i:=0) (u:=.slice (some ⟨g9,0,none⟩) (LI.length+1) cap9) Rg)
       have sq:Hid (ak 2 118 (w9.setCell ⟨b3,0,none⟩ (.slice (some ⟨g9,0,none⟩) (LI.length+1) cap9)) wc.heap.size (.slice (some ⟨g9,0,none⟩) (LI.length+1) cap9) (LI++[[.string yt,.int .i64 (tp:Int)]])):=zh (ii.keptS (Fr2.setCell (S:=fun k=>k=b3) (Fr2.refl _ _) (g:=b3) (j:=0) rfl _) (fun g hg e=>by have:=AX.out;omega))
       have adM:Hid (ak 15 55 (w9.setCell ⟨b3,0,none⟩ (.slice (some ⟨g9,0,none⟩) (LI.length+1) cap9)) wc.heap.size (.slice pd nd cd) rows):=zh (((ak.keptR (ak.kept Si.out (aa jl.out dG)) eu (fun k h1 h2=>YX.out k h2 h1))).keptS (Fr2.setCell (S:=fun k=>k=b3) (Fr2.refl _ _) (g:=b3) (j:=0) rfl _) (fun g hg e=>by have:=AX.out;omega))
       have M6:Hid (Sep (.slice (some ⟨g9,0,none⟩) (LI.length+1) cap9) (.slice pd nd cd)):=zh (ER YX.out (fun k e=>by have:=SM k e;omega) ef)
       have Kl:Hid (eW (fun k=>b3+1≤k∧k<(w9.setCell ⟨b3,0,none⟩ (.slice (some ⟨g9,0,none⟩) (LI.length+1) cap9)).heap.size∧¬Wr3 b3 (.slice (some ⟨g9,0,none⟩) (LI.length+1) cap9) (.slice pd nd cd) k) (w9.setCell ⟨b3,0,none⟩ (.slice (some ⟨g9,0,none⟩) (LI.length+1) cap9)) (cO T (l.take j)).defs rows):=zh (Nh (w7:=W8) ip.out jl.out dG (by simp) eu (ef.imp id (fun h=>by omega)))
       have nj:Hid (Fr2 (fun k=>k=b3) wc (w9.setCell ⟨b3,0,none⟩ (.slice (some ⟨g9,0,none⟩) (LI.length+1) cap9))):=zh ((HF.out.low (Below.trans2 (Below.gb jl.out HF.out.size) (Below.trans2 (Below.gb dG HS8.out) ((Fr2.of eu (S:=fun k=>(Value.slice pi ni ci).ownBlock=some k) (fun k e=>e)).below (by have:=HS8.out;simp;omega) (fun k e=>(ak.at HO8.out k e).1))))).setCell rfl _)
       clear dG SM adX Rg ii eu ef HO8 Jk Si YX ip HF zC
       go_wp2_with fail
       go_roundw
       case rel=>exact⟨j+1,rows,some ⟨g9,0,none⟩,LI.length+1,cap9,pd,nd,cd,by omega,by go_num,qv,zh (by rw [PA.out.1];exact sq.out),adM,M6,zh (by rw [PA.out.2];exact Kl.out),nj⟩
       case measure=>simp [intOf];omega
    ·by_cases h3:dx uj=3
     ·cases uj with
      | lf i=>simp [dx] at h3
      | nd k' l'=>
        have h3:k'=3:=h3
        subst h3
        obtain⟨n',Ik,j5,jb,oh⟩:=eU.nd
        have j5:k1=n':=by omega
        subst j5
        have sx:=fB Js.out wl
        simp only [kOk] at sx
        have iS:=zh (rh.out k1 _ wr jb lu.out)
        have PC:=zh (fun W h1 h2 h3=>HDF.out k1 3 Ik l' W (ue.out.2 l' rfl) jb oh sx.2.2 (fun z hz=>by rw [←AZ.out];exact vB.out z (gE wl z (by simp only [lvT];exact hz))) (by have h9:=je wl;have h8:=pO.out;simp only [szR] at h9;omega) h1 h2 h3)
        have PA:Hid ((cO T (l.take (j+1))).imps=(cO T (l.take j)).imps∧(cO T (l.take (j+1))).defs=(cO T (l.take j)).defs++[Dw T l']):=zh ⟨by rw [ir.out.1,if_neg (show ¬dx (.nd 3 l')=2 by simp [dx]),List.append_nil],by rw [ir.out.2,if_pos (show dx (.nd 3 l')=3 from rfl)];rfl⟩
        have Vi:=zh RX
        clear wl iP eU lz jb oh sx ue ir RX MR h2
        go_wp2_with fail
        refine iS.out.mono ?_
        rintro e w6 ⟨rfl,dk⟩
        have dQ:=zh dk
        clear a0 a1 a2 d0 d1 d2
        obtain⟨a0,a1,a2⟩:=ah (bx dk iw.out)
        obtain⟨d0,d1,d2⟩:=ah (bx dk y7.out)
        have jK:b0<w6.heap.size:=zn jK dk.size
        have ig:b3<w6.heap.size:=zn ig dk.size
        clear dk iS
        go_wp2_with fail
        go_region_law (first
         | (refine fc (s:=15) (t:=48) (T:=55) (by decide) Tryz.underlying48 Wi rfl (by omega) rfl _ _ rfl wc.heap.size rows [q0,q1,q2,q3,q4,q5,q6,q7,q8,q9,Gk,Cu,Gh,Tt,Ug] rfl vK.out (.slice pd nd cd) rfl (ak.kept vO.out gby) w7.heap.size _ rfl (by exact lT.out) rfl zP.out (by have:=n6.out;simp;omega) (w7.heap.size+1) (by simp) ?_;intro g9 cap9 w9 ii eu ef;have kJ:=(eu.block b3 (by simp;omega) (fun e=>by have:=(ak.at vO.out b3 e.symm).1;have:=AX.out;omega)).trans (show _=_ from bx (show w7.grownBy _ none from gby) Ru.out);obtain⟨r0,r1,r2⟩:=ah kJ;have rf:=zh kJ;have ss:=zh ii;have BG:=zh eu;have zw:=zh ef;have ig:b3<w9.heap.size:=hlt kJ;clear kJ ii eu ef)
         | (go_simp;go_at_call 53;refine(PC.out _ (Bv.out.kept (aa dQ.out gby)) (lu.out.kept (aa dQ.out gby)) (JD.out.kept (aa dQ.out gby))).mono ?_;rintro e w7 ⟨iG,q,rfl,hq⟩;obtain⟨-,TV,q0,q1,q2,q3,q4,q5,q6,q7,q8,q9,Gk,Cu,Gh,Tt,Ug,rfl⟩:=hq.fift;have vK:=zh TV;have qy:=zh (aa dQ.out (aa (show w6.grownBy _ none from gby) iG));have HQ:Hid (DAt (fun k=>wr.heap.size≤k) w7 _ [q0,q1,q2,q3,q4,q5,q6,q7,q8,q9,Gk,Cu,Gh,Tt,Ug]):=zh (DAt.mono (fun k hk=>Nat.le_trans dQ.out.size hk) hq);have vO:=zh (Si.out.kept qy.out);have Ru:=zh (bx qy.out y7.out);obtain⟨x0,x1,x2⟩:=ah Ru.out;have aiX:b3<w7.heap.size:=hlt Ru.out;have n6:Hid (wc.heap.size≤w7.heap.size):=zh (Nat.le_trans HF.out.size qy.out.size);have lT:=zh (heap_alloc_new w7 (.cells #[q0,q1,q2,q3,q4,q5,q6,q7,q8,q9,Gk,Cu,Gh,Tt,Ug] 55));clear iG hq TV))
        all_goals
         have dG:w7.grownBy (w7.alloc (.cells #[q0,q1,q2,q3,q4,q5,q6,q7,q8,q9,Gk,Cu,Gh,Tt,Ug] 55)) none:=World.grownBy_alloc _ _ _
         have Kl:Hid (eW (fun k=>b3+1≤k∧k<(w9.setCell ⟨b3,1,none⟩ (.slice (some ⟨g9,0,none⟩) (rows.length+1) cap9)).heap.size∧¬Wr3 b3 (.slice pi ni ci) (.slice (some ⟨g9,0,none⟩) (rows.length+1) cap9) k) (w9.setCell ⟨b3,1,none⟩ (.slice (some ⟨g9,0,none⟩) (rows.length+1) cap9)) (cO T (l.take (j+1))).defs (rows++[[q0,q1,q2,q3,q4,q5,q6,q7,q8,q9,Gk,Cu,Gh,Tt,Ug]])):=zh (by
          rw [PA.out.2]
          exact Nj (w7:=w7) (wa:=w7.alloc (.cells #[q0,q1,q2,q3,q4,q5,q6,q7,q8,q9,Gk,Cu,Gh,Tt,Ug] 55)) JU.out (by have:=AX.out;omega) (hlt y7.out) Jk.out Si.out ip.out qy.out HQ.out dG (by simp) BG.out zw.out)
         have qv:Hid ((w9.setCell ⟨b3,1,none⟩ (.slice (some ⟨g9,0,none⟩) (rows.length+1) cap9)).heap[b3]? = some (.cells #[.slice pi ni ci,.slice (some ⟨g9,0,none⟩) (rows.length+1) cap9] 50 (0,0))):=zh (ab (i:=1) (u:=.slice (some ⟨g9,0,none⟩) (rows.length+1) cap9) rf.out)
         have sq:Hid (ak 15 55 (w9.setCell ⟨b3,1,none⟩ (.slice (some ⟨g9,0,none⟩) (rows.length+1) cap9)) wc.heap.size (.slice (some ⟨g9,0,none⟩) (rows.length+1) cap9) (rows++[[q0,q1,q2,q3,q4,q5,q6,q7,q8,q9,Gk,Cu,Gh,Tt,Ug]])):=zh (ss.out.keptS (Fr2.setCell (S:=fun k=>k=b3) (Fr2.refl _ _) (g:=b3) (j:=1) rfl _) (fun g hg e=>by have:=AX.out;omega))
         have adH:Hid (ak 2 118 (w9.setCell ⟨b3,1,none⟩ (.slice (some ⟨g9,0,none⟩) (rows.length+1) cap9)) wc.heap.size (.slice pi ni ci) ((cO T (l.take (j+1))).imps.map sT)):=zh (by
          rw [PA.out.1]
          exact((ak.keptR (ak.kept Jk.out (aa qy.out dG)) BG.out (fun k h1 h2=>YX.out k h1 h2))).keptS (Fr2.setCell (S:=fun k=>k=b3) (Fr2.refl _ _) (g:=b3) (j:=1) rfl _) (fun g hg e=>by have:=AX.out;omega))
         have M6:Hid (Sep (.slice pi ni ci) (.slice (some ⟨g9,0,none⟩) (rows.length+1) cap9)):=zh (Sep.symm (ER (Sep.symm YX.out) (fun k e=>by have h1:=(ak.at Jk.out k e).2;have h2:=qy.out.size;omega) zw.out))
         have nj:Hid (Fr2 (fun k=>k=b3) wc (w9.setCell ⟨b3,1,none⟩ (.slice (some ⟨g9,0,none⟩) (rows.length+1) cap9))):=zh ((HF.out.low (Below.trans2 (Below.gb qy.out HF.out.size) (Below.trans2 (Below.gb dG n6.out) ((Fr2.of BG.out (S:=fun k=>(Value.slice pd nd cd).ownBlock=some k) (fun k e=>e)).below (by have:=n6.out;simp;omega) (fun k e=>(ak.at vO.out k e).1))))).setCell rfl _)
         clear dG ss rf BG zw lT HQ vK vO Ru r0 r1 r2 x0 x1 x2 ip Jk Si HF
         go_wp2_with fail
         go_roundw
         case rel=>exact⟨j+1,rows++[[q0,q1,q2,q3,q4,q5,q6,q7,q8,q9,Gk,Cu,Gh,Tt,Ug]],pi,ni,ci,some ⟨g9,0,none⟩,rows.length+1,cap9,by omega,by go_num,qv,adH,sq,M6,Kl,nj⟩
         case measure=>simp [intOf];omega
     ·have PA:Hid ((cO T (l.take (j+1))).imps=(cO T (l.take j)).imps∧(cO T (l.take (j+1))).defs=(cO T (l.take j)).defs):=zh ⟨by rw [ir.out.1,if_neg h2,List.append_nil],by rw [ir.out.2,if_neg h3,List.append_nil]⟩
      obtain⟨xk,UY,RC,ai9⟩:∃xk:Int,(Calls Tryz.prog 51 #[.agg #[.slice pt mt ct,.slice pn mn cn],.int .i64 (k1:Int)] wr (aR (.int .i64 xk) wr))∧(xk == 2)=false∧(xk == 3)=false:=by
       cases uj with
       | lf i=>
         obtain⟨n',j5,jb⟩:=eU.lf
         have j5:k1=n':=by omega
         subst j5
         exact⟨19,rh.out k1 _ wr jb lu.out,rfl,rfl⟩
       | nd k' l'=>
         obtain⟨n',Ik,j5,jb,-⟩:=eU.nd
         have j5:k1=n':=by omega
         subst j5
         exact⟨(k':Int),rh.out k1 _ wr jb lu.out,beq_eq_false_iff_ne.2 (fun e=>h2 (by have e2:k'=2:=(by omega);exact e2)),beq_eq_false_iff_ne.2 (fun e=>h3 (by have e2:k'=3:=(by omega);exact e2))⟩
      have UY:=zh UY
      clear wl iP eU lz h2 h3 MR RX
      go_wp2_with fail
      refine UY.out.mono ?_
      rintro e w6 ⟨rfl,dk⟩
      have dQ:=zh dk
      clear dk
      go_wp2_with fail
      go_roundw
      case rel=>exact⟨j+1,rows,pi,ni,ci,pd,nd,cd,by omega,by go_num,zh (bx dQ.out y7.out),zh (by rw [PA.out.1];exact Jk.out.kept dQ.out),zh (Si.out.kept dQ.out),YX,zh (by rw [PA.out.2];exact oI (fun k hk=>⟨hk.1,zn hk.2.1 dQ.out.size,hk.2.2⟩) (RG ip.out dQ.out)),zh (HF.out.trans (Fr2.none dQ.out))⟩
      case measure=>simp [intOf];omega
   ·obtain rfl:j=M:=by omega
    have ky:Hid (l.take j=l):=zh (List.take_of_length_le (by have:=zA.out;omega))
    rw [ky.out] at Jk ip
    obtain⟨f0,f1,f2⟩:=ah eM.out
    have dC:b2<wr.heap.size:=hlt eM.out
    have HP:=zh (Sj h23 hww AX.out j4.out eM.out Jk.out Si.out ip.out)
    go_wp2_with fail
    have hc:=ab (i:=1) (u:=.slice pd nd cd) (ab (i:=0) (u:=.slice pi ni ci) eM.out)
    obtain⟨k0,k1,-⟩:=ah (show((wr.setCell ⟨b2,0,none⟩ (.slice pi ni ci)).setCell ⟨b2,1,none⟩ (.slice pd nd cd)).heap[b2]? = some (Obj.cells #[.slice pi ni ci,.slice pd nd cd] 50 (0,0)) from hc)
    refine bodyPost_ret (v:=.agg #[.slice pi ni ci,.slice pd nd cd]) (by simp [results,Tryz.results20,go_sem,k0,k1]) rfl HP.out
end Go.Proofs.YtjbgnopnehgbaaaGreatDoor
