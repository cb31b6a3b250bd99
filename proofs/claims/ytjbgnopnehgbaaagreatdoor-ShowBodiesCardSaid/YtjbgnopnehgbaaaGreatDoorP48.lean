/- Lemmas. -/
import Derived.Test.YtjbgnopnehgbaaaGreatDoorP16
set_option linter.unusedVariables false
set_option linter.unusedSimpArgs false
set_option maxHeartbeats 32000000
set_option maxRecDepth 100000
namespace Go.Proofs.YtjbgnopnehgbaaaGreatDoor
open Go.RowKit
theorem ZS {T:List Tok} {N:List Nd} {K:Kf} (hT:T.length≤150000) (hN:N.length≤150000) {n kd:Nat} {ks:List Int} {l:List Tr} (hx:N[n]? = some ⟨(kd:Int),-1,ks⟩) (jX:KT N n ks l) (lJ:ix l) (lH:∀i∈eo l,i<T.length) (db:dI l≤150000) (dp:∀t∈l,OkK T t) (hok4:∀l',Tr.nd 4 l'∈l→∀t∈l',OkK T t) (vo:∀i,(tkT T i).pos≤1000000∧(tkT T i).text.length≤1000000)
  {i0:Nat} (h0:l[0]? = some (.lf i0)) {u:Tr} (hbu:l[l.length - 2]? = some u) (pM:isN u=true) (pL:WE T u) (vA:2≤l.length) (pt pn:Option Addr) (ct cn:Nat) (w:World) (ht:TAt w pt T) (hn:aE w pn N K) (cg:fy w):
  Calls Tryz.prog 53 #[.agg #[.slice pt T.length ct,.slice pn N.length cn],.int .i64 (n:Int)] w (zE (Dw T l) w):=by
 have ET:l.length≤150000:=Nat.le_trans (jk l) db
 have rh:=zh (fun (n:Nat) (x:Nd) W (hx:N[n]? = some x) h=>tL (K:=K) hN hx pt pn T.length ct cn W h)
 have xN:=zh (fun W h=>qz (K:=K) hN hx pt pn T.length ct cn W h)
 have AD:=zh (fun W h1 h2 h3=>Gc (K:=K) hT hN hx jX lJ lH db dp vo pt pn ct cn W h1 h2 h3)
 have Jo:=zh (fun (n k:Nat) (ks:List Int) (l:List Tr) W (hx:N[n]? = some ⟨(k:Int),-1,ks⟩) (jX:KT N n ks l) (lJ:ix l) (lH:∀i∈eo l,i<T.length) (db:dI l≤150000) (dp:∀t∈l,OkK T t) h1 h2 h3=>Gc (K:=K) hT hN hx jX lJ lH db dp vo pt pn ct cn W h1 h2 h3)
 obtain⟨k0,Fr,ZA,-⟩:=jX.2 0 _ h0
 obtain⟨n0,wv,ach⟩:=ZA.lf
 have wv:k0=n0:=by omega
 subst wv
 have JF:i0<T.length:=lH i0 (zM h0)
 have kA:=zh (fun W h1 h2=>zx (K:=K) hT hN ach JF pt pn ct cn W h1 h2)
 obtain⟨kb,L6,htb,-⟩:=jX.2 _ _ hbu
 have Da:rH T N (kb:Int) u:=⟨pM,pL,fB lJ hbu,fun z hz=>lH z (gE hbu z hz),htb⟩
 have xz:=zh (fun W h1 h2 h3=>Dm (K:=K) hT hN pt pn ct cn (szR u) u (kb:Int) W (by have:=je hbu;omega) (Nat.le_refl _) Da h1 h2 h3)
 have hhl:xJ T l=tkT T i0:=by
  cases l with
  | nil=>simp at h0
  | cons a r=>simp at h0;subst h0;simp [xJ,aX]
 have eO:l.getD (l.length - 2) (.lf 0)=u:=by rw [List.getD_eq_getElem?_getD,hbu];rfl
 have PC:Hid (Dw T l=⟨decide ((tkT T i0).text=Ec),dS T l,eH T l,axT T u⟩):=zh (by unfold Dw;rw [hhl,eO])
 have HX:=zh hx;have sD:=zh jX;have Js:=zh lJ;have vB:=zh lH;have pO:=zh db;have agx:=zh hok4
 have HT:=zh ht;have HN:=zh hn;have gf:=zh cg
 have C6:Hid (VAt w (K n).1 (bo ks)):=zh (hn.2 n _ hx)
 obtain⟨mt,vM⟩:∃mt,T.length=mt:=⟨_,rfl⟩
 obtain⟨mn,sM⟩:∃mn,N.length=mn:=⟨_,rfl⟩
 obtain⟨M,hM⟩:∃M,ks.length=M:=⟨_,rfl⟩
 have R3:M=l.length:=by rw [←hM];exact jX.1
 have zA:=zh R3
 have hMm:M≤150000∧2≤M:=by omega
 rw [vM,sM] at rh xN AD Jo kA xz ⊢
 have xN:Hid (∀W,aE W pn N K→Calls Tryz.prog 49 #[.agg #[.slice pt mt ct,.slice pn mn cn],.int .i64 (n:Int)] W (aR (.slice (K n).1 M (K n).2) W)):=zh (fun W h=>by rw [←hM];exact xN.out W h)
 have AZ:=zh vM
 obtain⟨pk,nF⟩:∃pk,(K n).1=pk:=⟨_,rfl⟩
 have WV:=zh nF
 rw [nF] at C6 xN
 generalize (K n).2=ck at *
 obtain⟨g,off,rfl,gc,v0⟩:=gW C6.out Fr
 obtain⟨g',Ob,YQ,-,vb⟩:=gW C6.out L6
 injection YQ with YQ;injection YQ with iE ee;subst iE ee
 rw [Nat.add_zero] at v0
 rw [←R3] at vb
 have Yz:=zh v0;have HVB:=zh vb;have FW:=zh gc
 obtain⟨tk,qK⟩:∃tk,(tkT T i0).kind=tk:=⟨_,rfl⟩
 obtain⟨tp,rR⟩:∃tp,(tkT T i0).pos=tp:=⟨_,rfl⟩
 obtain⟨y9,S3⟩:∃y:ByteArray,(⟨(tkT T i0).lead.toArray⟩:ByteArray)=y:=⟨_,rfl⟩
 obtain⟨yt,CB⟩:∃y:ByteArray,(⟨(tkT T i0).text.toArray⟩:ByteArray)=y:=⟨_,rfl⟩
 obtain⟨pub,X4⟩:∃pub:Bool,(yt.toList == [112,117,98])=pub:=⟨_,rfl⟩
 have hpd:decide ((tkT T i0).text=Ec)=pub:=by
  rw [←X4,toList_data,←CB]
  show decide ((tkT T i0).text=Ec)=((tkT T i0).text == Ec)
  rw [Bool.eq_iff_iff];simp
 rw [hpd] at PC
 unfold uN aw at kA
 rw [qK,rR,S3,CB] at kA
 obtain⟨F,hF⟩:∃F,eH T l=F:=⟨_,rfl⟩
 rw [hF] at AD PC
 have lM:=zh X4
 clear ht hn cg hx jX lJ lH db dp hok4 vo hT hN vM sM hM R3 ET h0 hbu pM pL vA Fr ZA ach JF L6 htb Da hhl eO qK rR S3 CB hpd hF v0 vb X4 C6 nF
 go_enter Tryz.func53,Tryz.ntmps53
 go_wp2_with fail
 obtain⟨W,b0,b1,hW,e0,e1,ge,ik,jC,zR⟩:=two w (.cells #[.slice pt mt ct,.slice pn mn cn] 73) (.cells #[.bool false,.string ⟨#[]⟩,.slice none 0 0,.int .i64 0,.slice none 0 0,.int .i64 0,.string ⟨#[]⟩,.string ⟨#[]⟩,.bool false,.slice none 0 0,.bool false,.slice none 0 0,.int .i64 0,.int .i64 0,.int .i64 0] 55)
 have ZK:W.heap.size=b1+1:=by rw [hW];simp;omega
 have f9:=zh ge;have iV:=zh ik;have da:=zh jC;have kD:=zh e0;have Yu:=zh ZK
 clear ge ik jC
 try rw [←hW]
 try rw [e1]
 try rw [e0]
 clear e0 e1 hW ZK
 have HTw:=HT;have HNw:=HN;have HLw:=gf
 have HT:=zh (HT.out.kept da.out);have HN:=zh (HN.out.kept da.out);have gf:=zh (gf.out.kept da.out)
 obtain⟨a0,a1,a2⟩:=ah f9.out
 have jK:b0<W.heap.size:=hlt f9.out
 go_cut [5,6] (fun t5 t6 wx=>Hid (t5=.slice (some ⟨g,off,none⟩) M ck∧DY W (b1+1) F t6 wx))
 case first=>
  go_region_held3 (fun w'=>w'.cell? ⟨b0,0,none⟩=some (.slice pt mt ct)∧w'.cell? ⟨b0,1,none⟩=some (.slice pn mn cn))
   (first | with_reducible exact⟨a0,a1⟩ | with_reducible exact⟨TE a0 (by omega),TE a1 (by omega)⟩ | go_keep)
   (first
    | (go_at_call 49;refine(xN.out _ (HN.out.kept gbx)).mono ?_;rintro e w5 ⟨rfl,jI⟩;(try (have he5:=bx jI (heap_alloc_new W (.cells #[.string ⟨#[]⟩,.int .i64 0,.slice none 0 0,.int .i64 0,.int .i64 0] 168))));have iD:=zh (aa (show W.grownBy _ none from gbx) jI);have s5:W.heap.size≤w5.heap.size:=iD.out.size;have a0:=iD.out.cell a0 (by simp);have a1:=iD.out.cell a1 (by simp);clear jI)
    | (go_at_call 92;refine(AD.out _ (HT.out.kept (aa iD.out gbx)) (HN.out.kept (aa iD.out gbx)) (gf.out.kept (aa iD.out gbx))).mono ?_;rintro e w6 ⟨dk,q,rfl,hq⟩;obtain⟨pc,nc,cc,rfl⟩:=hq.form;(try (have he6:=bx dk he5));(try (have he6:=bx dk (heap_alloc_new w5 (.cells #[.string ⟨#[]⟩,.int .i64 0,.slice none 0 0,.int .i64 0,.int .i64 0] 168))));(try (have hc6:=fj he6;obtain⟨r0,r1,r2,r3,r4,r5⟩:=hc6));have dQ:=zh (aa (show w5.grownBy _ none from gbx) dk);have s6:w5.heap.size≤w6.heap.size:=dQ.out.size;have HQ:=zh hq;have a0:=dQ.out.cell a0 (by simp);have a1:=dQ.out.cell a1 (by simp);clear dk hq))
  all_goals
   have Ot:=Yu.out
   go_wp2_with fail
   go_meet
   refine zh ⟨rfl,?_⟩
   have mc:=aa iD.out dQ.out
   first
    | (with_reducible refine QY mc ?_ ?_ HQ.out
       ·show b1+1≤w5.heap.size
        omega
       ·omega)
    | (with_reducible refine F9 (b0:=W.heap.size) mc (Nat.le_refl _) ?_ ?_ he6 HQ.out
       ·omega
       ·exact hlt he5)
    | (with_reducible refine F9 (b0:=w5.heap.size) mc s5 ?_ ?_ he6 HQ.out
       ·omega
       ·simp)
 case rest=>
  obtain⟨rfl,b6,q6,rfl,Xy,Ym,SK,pJ⟩:=hcut.out
  obtain⟨pc,nc,cc,rfl⟩:=Ym.form
  have HGC:=zh pJ;have HB6:=zh Xy;have HQ6:=zh Ym;have Zj:=zh SK
  have f9:=zh (bx pJ f9.out);have iV:=zh (bx pJ iV.out)
  have HT:=zh (HT.out.kept pJ);have HN:=zh (HN.out.kept pJ);have gf:=zh (gf.out.kept pJ)
  have da:=zh (aa da.out pJ)
  clear hcut Xy Ym SK pJ a0 a1 a2
  obtain⟨a0,a1,a2⟩:=ah f9.out
  obtain⟨f0,f1,f2,f3,f4,f5⟩:=fj HB6.out
  have jK:b0<wc.heap.size:=hlt f9.out
  have Xy:b6<wc.heap.size:=hlt HB6.out
  have v0:=da.out.cell Yz.out (by simp)
  have rP:g<wc.heap.size:=zn FW.out da.out.size
  have m0:(0:Int)<(M:Int):=by omega
  have m1:decide ((0:Int)<(M:Int))=true:=zd m0
  have m2:decide (0<M)=true:=zd (by omega)
  have m3:0<M:=by omega
  go_wp2_with fail
  obtain⟨W7,b7,hW7,e7,hB7,yS,hs7⟩:=Vn wc (.cells #[.bool false,.string ⟨F.nm.toArray⟩,.slice none 0 0,.int .i64 (F.base:Int),.slice pc nc cc,.int .i64 0,.string ⟨#[]⟩,.string ⟨#[]⟩,.bool false,.slice none 0 0,.bool false,.slice none 0 0,.int .i64 0,.int .i64 (F.ps:Int),.int .i64 F.bare] 55)
  have gT:=zh yS
  have HB7:=zh hB7
  have f9:=zh (bx yS f9.out);have iV:=zh (bx yS iV.out)
  have HQ6:=zh (HQ6.out.kept yS)
  have HT:=zh (HT.out.kept yS);have HN:=zh (HN.out.kept yS);have gf:=zh (gf.out.kept yS)
  have da:=zh (aa da.out yS)
  have h67:b6<b7:=by rw [←e7];exact Xy
  have HSC:Hid (wc.heap.size=b7):=zh e7
  have aiO:b1<b6:=by have:=Zj.out;omega
  clear a0 a1 a2 f0 f1 f2 f3 f4 f5 jK Xy v0 rP
  obtain⟨a0,a1,a2⟩:=ah f9.out
  obtain⟨d0,d1,d2,d3,d4,d5,d6,d7,d8,d9,lK,SJ,X3,Wz,Wv,XO⟩:=fH HB7.out
  have jK:b0<W7.heap.size:=hlt f9.out
  have CD:b7<W7.heap.size:=hlt HB7.out
  have v0:=da.out.cell Yz.out (by simp)
  have rP:g<W7.heap.size:=zn FW.out da.out.size
  try rw [←hW7]
  try rw [e7]
  clear hW7 e7 hB7 yS hs7
  have SD:b7≠b0:=by omega
  have DT:b7≠g:=by have h1:=FW.out;have h2:=kD.out;omega
  have Ed:=I4
  have q1:(yt.toList == [112,117,98])=pub:=lM.out
  go_region_held3 (fun w'=>w'.cell? ⟨b0,0,none⟩=some (.slice pt mt ct)∧w'.cell? ⟨b0,1,none⟩=some (.slice pn mn cn)∧w'.cell? ⟨g,off,none⟩=some (.int .i64 (k0:Int)))
   (first | with_reducible exact⟨a0,a1,v0⟩ | go_keep)
   (first | (go_at_call 91;refine(kA.out _ (HT.out.kept gbx) (HN.out.kept gbx)).mono ?_;rintro e w8 ⟨rfl,zi⟩;have jl:=zh (aa (show W7.grownBy _ none from gbx) zi);obtain⟨a0,a1,a2⟩:=ah (bx jl.out f9.out);obtain⟨d0,d1,d2,d3,d4,d5,d6,d7,d8,d9,lK,SJ,X3,Wz,Wv,XO⟩:=fH (bx jl.out HB7.out);have v0:=jl.out.cell v0 (by simp);have CD:b7<w8.heap.size:=zn CD jl.out.size;clear zi))
  all_goals
   go_wp2_with fail
   have YK:Fr2 (fun k=>k=b7) W7 (w8.setCell ⟨b7,0,none⟩ (.bool pub)):=(Fr2.none jl.out).trans (Fr2.setCell (S:=fun k=>k=b7) (Fr2.refl _ _) (g:=b7) (j:=0) rfl _)
   have KV:=zh (ab (i:=0) (u:=.bool pub) (bx jl.out HB7.out))
   obtain⟨W9,hW9⟩:∃W9,w8.setCell ⟨b7,0,none⟩ (.bool pub)=W9:=⟨_,rfl⟩
   rw [hW9] at YK KV ⊢
   have KV:Hid (W9.heap[b7]? = some (.cells #[.bool pub,.string ⟨F.nm.toArray⟩,.slice none 0 0,.int .i64 (F.base:Int),.slice pc nc cc,.int .i64 0,.string ⟨#[]⟩,.string ⟨#[]⟩,.bool false,.slice none 0 0,.bool false,.slice none 0 0,.int .i64 0,.int .i64 (F.ps:Int),.int .i64 F.bare] 55 (0,0))):=KV
   have mV:w.heap.size≤b7:=by have:=kD.out;omega
   have rr:=zh (Fr2.after da.out YK (fun k e=>by have e:k=b7:=e;omega))
   have Xd:=zh (YK.keep f9.out (by omega));have agc:=zh (YK.keep iV.out (by omega))
   have HQ9:=zh (PAt.same YK (fun k hk e=>by have e:k=b7:=e;have h1:=hk.2.1;have h2:=HSC.out;omega) HQ6.out)
   have AX:Hid (b7+1≤W9.heap.size):=zh (hlt KV.out)
   clear YK hW9 a0 a1 a2 d0 d1 d2 d3 d4 d5 d6 d7 d8 d9 lK SJ X3 Wz Wv XO jK CD v0 rP
   go_loopw [37] (fun iv wr=>∃(j:Nat) (rows:List (List Value)) (pv:Option Addr) (nv cv:Nat),j≤M∧iv=.int .i64 (j:Int)∧Hid (wr.heap[b7]? = some (.cells #[.bool pub,.string ⟨F.nm.toArray⟩,.slice pv nv cv,.int .i64 (F.base:Int),.slice pc nc cc,.int .i64 0,.string ⟨#[]⟩,.string ⟨#[]⟩,.bool false,.slice none 0 0,.bool false,.slice none 0 0,.int .i64 0,.int .i64 (F.ps:Int),.int .i64 F.bare] 55 (0,0)))∧Hid (ak 5 168 wr W9.heap.size (.slice pv nv cv) rows)∧Hid (fP (fun k=>b7+1≤k∧k<wr.heap.size∧k≠b7∧(Value.slice pv nv cv).ownBlock≠some k) wr (dS T (l.take j)) rows)∧Hid (Fr2 (fun k=>k=b7) W9 wr)) (fun iv _=>M - (intOf iv).toNat)
   case atStart=>exact⟨0,[],none,0,0,Nat.zero_le _,rfl,KV,zh (ak.nil _ _ _ _),zh (by simp [dS,fP]),zh (Fr2.refl _ _)⟩
   case round=>
    obtain⟨j,rows,pv,nv,cv,hj,rfl,Ab,HO,ip,HF⟩:=hrel
    have j4:Hid (w.grownBy wr none):=zh (Fr2.after rr.out HF.out (fun i hi=>by have e:i=b7:=hi;omega))
    have iw:=zh (HF.out.keep Xd.out (by omega));have n5:=zh (HF.out.keep agc.out (by omega))
    have JU:Hid (b7+1≤wr.heap.size):=zh (Nat.le_trans AX.out HF.out.size)
    have Bv:=zh (HTw.out.kept j4.out);have lu:=zh (HNw.out.kept j4.out);have JD:=zh (HLw.out.kept j4.out)
    obtain⟨a0,a1,a2⟩:=ah iw.out
    obtain⟨d0,d1,d2,d3,d4,d5,d6,d7,d8,d9,lK,SJ,X3,Wz,Wv,XO⟩:=fH Ab.out
    have jK:b0<wr.heap.size:=hlt iw.out
    have CD:b7<wr.heap.size:=hlt Ab.out
    have OH:g<wr.heap.size:=zn FW.out j4.out.size
    by_cases hlj:j<M
    ·obtain⟨uj,wl⟩:∃u,l[j]? = some u:=⟨l[j]'(by have:=zA.out;omega),List.getElem?_eq_getElem _⟩
     obtain⟨k1,iP,eU,lz⟩:=sD.out.2 j uj wl
     obtain⟨gg,oo,Fi,-,SO⟩:=gW (HNw.out.2 n _ HX.out) iP
     rw [WV.out] at Fi
     injection Fi with Fi;injection Fi with iE ee;subst iE ee
     have SO:=j4.out.cell SO (by simp)
     have y1:(0:Int)≤(j:Int):=by omega
     have y2:(j:Int)<(M:Int):=by omega
     have y3:decide (j<M)=true:=zd hlj
     have y4:decide ((j:Int)<(M:Int))=true:=zd y2
     have ir:=zh (yi T wl)
     by_cases h4:dx uj=4
     ·cases uj with
      | lf i=>simp [dx] at h4
      | nd k' l'=>
        have h4:k'=4:=h4
        subst h4
        obtain⟨n',Ik,j5,jb,oh⟩:=eU.nd
        have j5:k1=n':=by omega
        subst j5
        have sx:=fB Js.out wl
        simp only [kOk] at sx
        have iS:=zh (rh.out k1 _ wr jb lu.out)
        have Sd:=zh (fun W h1 h2 h3=>Jo.out k1 4 Ik l' W jb oh sx.2.2 (fun z hz=>by rw [←AZ.out];exact vB.out z (gE wl z (by simp only [lvT];exact hz))) (by have h9:=je wl;have h8:=pO.out;simp only [szR] at h9;omega) (agx.out l' (List.mem_of_getElem? wl)) h1 h2 h3)
        have ir:Hid (dS T (l.take (j+1))=dS T (l.take j)++[eH T l']):=zh (by rw [ir.out,if_pos (show dx (.nd 4 l')=4 from rfl)];rfl)
        have XJ:Hid (rows.length≤1000000):=zh (by have h1:=pT ip.out;have h2:=B5 T (l.take j);have h3:=List.length_take (i:=j) (l:=l);omega)
        obtain⟨pv',cv',T0,-⟩:=HO.out.is
        have AV:nv=rows.length:=by injection T0
        have Xg:=zh AV
        clear wl iP eU lz jb oh sx T0 AV
        go_wp2_with fail
        refine iS.out.mono ?_
        rintro e w6 ⟨rfl,dk⟩
        have dQ:=zh dk
        clear a0 a1 a2 d0 d1 d2 d3 d4 d5 d6 d7 d8 d9 lK SJ X3 Wz Wv XO
        obtain⟨a0,a1,a2⟩:=ah (bx dk iw.out)
        obtain⟨d0,d1,d2,d3,d4,d5,d6,d7,d8,d9,lK,SJ,X3,Wz,Wv,XO⟩:=fH (bx dk Ab.out)
        have jK:b0<w6.heap.size:=zn jK dk.size
        have CD:b7<w6.heap.size:=zn CD dk.size
        clear dk iS
        go_wp2_with fail
        go_region_law (first
         | (refine fc (s:=5) (t:=53) (T:=168) (by decide) Tryz.underlying53 R6 rfl (by omega) rfl _ _ rfl W9.heap.size rows [q0,q1,q2,q3,q4] rfl vK.out (.slice pv nv cv) rfl (ak.kept vO.out gby) w7.heap.size _ rfl (by exact lT.out) rfl XJ.out (by have:=n6.out;simp;omega) (w7.heap.size+1) (by simp) ?_;intro g9 cap9 w9 ii eu ef;have kJ:=(eu.block b7 (by simp;omega) (fun e=>by have:=(ak.at vO.out b7 e.symm).1;have:=AX.out;omega)).trans (show _=_ from bx (show w7.grownBy _ none from gby) PH.out);obtain⟨r0,r1,r2,r3,r4,r5,r6,r7,r8,r9,r10,r11,r12,r13,r14,r15⟩:=fH kJ;have rf:=zh kJ;have ss:=zh ii;have BG:=zh eu;have zw:=zh ef;clear kJ ii eu ef)
         | (go_simp;go_at_call 92;refine(Sd.out _ (Bv.out.kept (aa dQ.out gby)) (lu.out.kept (aa dQ.out gby)) (JD.out.kept (aa dQ.out gby))).mono ?_;rintro e w7 ⟨iG,q,rfl,hq⟩;obtain⟨-,TV,q0,q1,q2,q3,q4,rfl⟩:=hq.five;have vK:=zh TV;have qy:=zh (aa dQ.out (aa (show w6.grownBy _ none from gby) iG));have HQ:Hid (PAt (fun k=>wr.heap.size≤k) w7 _ [q0,q1,q2,q3,q4]):=zh (PAt.mono (fun k hk=>Nat.le_trans dQ.out.size hk) hq);have vO:=zh (HO.out.kept qy.out);have PH:=zh (bx qy.out Ab.out);obtain⟨x0,x1,x2,x3,x4,x5,x6,x7,x8,x9,vh,sP,rD,oO,oq,x15⟩:=fH PH.out;have aiM:b7<w7.heap.size:=hlt PH.out;have n6:Hid (W9.heap.size≤w7.heap.size):=zh (Nat.le_trans HF.out.size qy.out.size);have lT:=zh (heap_alloc_new w7 (.cells #[q0,q1,q2,q3,q4] 168));clear iG hq TV))
        all_goals
         have dG:w7.grownBy (w7.alloc (.cells #[q0,q1,q2,q3,q4] 168)) none:=World.grownBy_alloc _ _ _
         have Lw:Hid (fP (fun k=>b7+1≤k∧k<(w9.setCell ⟨b7,2,none⟩ (.slice (some ⟨g9,0,none⟩) (rows.length+1) cap9)).heap.size∧k≠b7∧(Value.slice (some ⟨g9,0,none⟩) (rows.length+1) cap9).ownBlock≠some k) (w9.setCell ⟨b7,2,none⟩ (.slice (some ⟨g9,0,none⟩) (rows.length+1) cap9)) (dS T (l.take (j+1))) (rows++[[q0,q1,q2,q3,q4]])):=zh (by
          rw [ir.out]
          exact LY (w7:=w7) (wa:=w7.alloc (.cells #[q0,q1,q2,q3,q4] 168)) JU.out HO.out (by have:=AX.out;omega) (hlt Ab.out) ip.out qy.out HQ.out dG (by simp) BG.out zw.out (ad _ _))
         have qv:Hid ((w9.setCell ⟨b7,2,none⟩ (.slice (some ⟨g9,0,none⟩) (rows.length+1) cap9)).heap[b7]? = some (.cells #[.bool pub,.string ⟨F.nm.toArray⟩,.slice (some ⟨g9,0,none⟩) (rows.length+1) cap9,.int .i64 (F.base:Int),.slice pc nc cc,.int .i64 0,.string ⟨#[]⟩,.string ⟨#[]⟩,.bool false,.slice none 0 0,.bool false,.slice none 0 0,.int .i64 0,.int .i64 (F.ps:Int),.int .i64 F.bare] 55 (0,0))):=zh (ab (i:=2) (u:=.slice (some ⟨g9,0,none⟩) (rows.length+1) cap9) rf.out)
         have sq:Hid (ak 5 168 (w9.setCell ⟨b7,2,none⟩ (.slice (some ⟨g9,0,none⟩) (rows.length+1) cap9)) W9.heap.size (.slice (some ⟨g9,0,none⟩) (rows.length+1) cap9) (rows++[[q0,q1,q2,q3,q4]])):=zh (ss.out.keptS (Fr2.setCell (S:=fun k=>k=b7) (Fr2.refl _ _) (g:=b7) (j:=2) rfl _) (fun g hg e=>by have:=AX.out;omega))
         have nj:Hid (Fr2 (fun k=>k=b7) W9 (w9.setCell ⟨b7,2,none⟩ (.slice (some ⟨g9,0,none⟩) (rows.length+1) cap9))):=zh ((HF.out.low (Below.trans2 (Below.gb qy.out HF.out.size) (Below.trans2 (Below.gb dG n6.out) ((Fr2.of BG.out (S:=fun k=>(Value.slice pv nv cv).ownBlock=some k) (fun k e=>e)).below (by have:=n6.out;simp;omega) (fun k e=>(ak.at vO.out k e).1))))).setCell rfl _)
         clear dG ss rf BG zw lT HQ vK vO PH r0 r1 r2 r3 r4 r5 r6 r7 r8 r9 r10 r11 r12 r13 r14 r15 x0 x1 x2 x3 x4 x5 x6 x7 x8 x9 vh sP rD oO oq x15 ip HO HF
         go_wp2_with fail
         go_roundw
         case rel=>exact⟨j+1,rows++[[q0,q1,q2,q3,q4]],some ⟨g9,0,none⟩,rows.length+1,cap9,by omega,by go_num,qv,sq,Lw,nj⟩
         case measure=>simp [intOf];omega
     ·have ir:Hid (dS T (l.take (j+1))=dS T (l.take j)):=zh (by rw [ir.out,if_neg h4,List.append_nil])
      obtain⟨xk,UY,RC⟩:∃xk:Int,(Calls Tryz.prog 51 #[.agg #[.slice pt mt ct,.slice pn mn cn],.int .i64 (k1:Int)] wr (aR (.int .i64 xk) wr))∧(xk == 4)=false:=by
       cases uj with
       | lf i=>
         obtain⟨n',j5,jb⟩:=eU.lf
         have j5:k1=n':=by omega
         subst j5
         exact⟨19,rh.out k1 _ wr jb lu.out,rfl⟩
       | nd k' l'=>
         obtain⟨n',Ik,j5,jb,-⟩:=eU.nd
         have j5:k1=n':=by omega
         subst j5
         exact⟨(k':Int),rh.out k1 _ wr jb lu.out,beq_eq_false_iff_ne.2 (fun e=>h4 (by have e2:k'=4:=(by omega);exact e2))⟩
      have UY:=zh UY
      clear wl iP eU lz h4
      go_wp2_with fail
      refine UY.out.mono ?_
      rintro e w6 ⟨rfl,dk⟩
      have dQ:=zh dk
      clear dk
      go_wp2_with fail
      go_roundw
      case rel=>exact⟨j+1,rows,pv,nv,cv,by omega,by go_num,zh (bx dQ.out Ab.out),zh (HO.out.kept dQ.out),zh (by rw [ir.out];exact oL (fun k hk=>⟨hk.1,zn hk.2.1 dQ.out.size,hk.2.2⟩) (Ey ip.out dQ.out)),zh (HF.out.trans (Fr2.none dQ.out))⟩
      case measure=>simp [intOf];omega
    ·obtain rfl:j=M:=by omega
     obtain⟨R,hR⟩:∃R,j - 2=R:=⟨_,rfl⟩
     have eE:IntKind.i64.wrap ((j:Int) - 2)=(R:Int):=by rw [IntWalk.i64_in _ (by omega)];omega
     have i1:(0:Int)≤(R:Int):=by omega
     have i2:(R:Int)<(j:Int):=by omega
     have i3:decide ((R:Int)<(j:Int))=true:=zd i2
     have i4:decide (R<j)=true:=zd (by omega)
     have i5:R<j:=by omega
     have vb:=j4.out.cell HVB.out (by simp)
     rw [hR] at vb
     clear hR
     have SD:b7≠b0:=by omega
     have DT:b7≠g:=by have h1:=FW.out;have h2:=kD.out;omega
     have h17:b1<b7:=by omega
     go_wp2_with fail
     go_region_held3 (fun w'=>w'.cell? ⟨b0,0,none⟩=some (.slice pt mt ct)∧w'.cell? ⟨b0,1,none⟩=some (.slice pn mn cn)∧w'.cell? ⟨g,off+R,none⟩=some (.int .i64 (kb:Int)))
      (first | with_reducible exact⟨a0,a1,vb⟩ | with_reducible exact⟨DQ a0 SD,DQ a1 SD,DQ vb DT⟩ | go_keep)
      (first | (go_at_call 58;refine(xz.out _ (Bv.out.kept gby) (lu.out.kept gby) (JD.out.kept gby)).mono ?_;rintro e w8 ⟨zi,q,rfl,hq⟩;obtain⟨op,FR,sa,sb,bs,FU,pw,pk,nw,cw,nk,FD,rfl⟩:=hq.form;have jl:=zh (aa (show wr.grownBy _ none from gby) zi);have HQE:Hid (EAt (fun k=>wr.heap.size≤k) w8 _ _):=zh hq;obtain⟨a0,a1,a2⟩:=ah (bx jl.out iw.out);obtain⟨d0,d1,d2,d3,d4,d5,d6,d7,d8,d9,lK,SJ,X3,Wz,Wv,XO⟩:=fH (bx jl.out Ab.out);have vb:=jl.out.cell vb (by simp);have CD:b7<w8.heap.size:=zn CD jl.out.size;clear zi hq))
     all_goals
      obtain⟨g0,g1,g2,g3,g4,g5,g6,g7,g8,g9,H0,Cz,DW,g13,g14,g15⟩:=fH (bx jl.out n5.out)
      have fw:b1<w8.heap.size:=hlt (bx jl.out n5.out)
      obtain⟨hBS,S0⟩:=Zz (bx jl.out Ab.out) (.int .i64 op) (.string sa) (.string sb) (.bool bs) (.slice pw nw cw) (.bool FU) (.slice pk nk FD) (.int .i64 FR)
      have Lj:=S0.keep (bx jl.out n5.out) (fun e=>by have e:b1=b7:=e;omega)
      obtain⟨WS,hWS⟩:∃WS,((((((((w8.setCell ⟨b7,5,none⟩ (.int .i64 op)).setCell ⟨b7,6,none⟩ (.string sa)).setCell ⟨b7,7,none⟩ (.string sb)).setCell ⟨b7,8,none⟩ (.bool bs)).setCell ⟨b7,9,none⟩ (.slice pw nw cw)).setCell ⟨b7,10,none⟩ (.bool FU)).setCell ⟨b7,11,none⟩ (.slice pk nk FD)).setCell ⟨b7,12,none⟩ (.int .i64 FR))=WS:=⟨_,rfl⟩
      rw [hWS] at S0 hBS Lj ⊢
      clear hWS d0 d1 d2 d3 d4 d5 d6 d7 d8 d9 lK SJ X3 Wz Wv XO g0 g1 g2 g3 g4 g5 g6 g7 g8 g9 H0 Cz DW g13 g14 g15 a0 a1 a2 vb
      have HFS:=zh S0;have Jr:=zh hBS;have vT:=zh Lj
      have H4:=zh (Oa (cs:=[.bool pub,.string ⟨F.nm.toArray⟩,.slice pv nv cv,.int .i64 (F.base:Int),.slice pc nc cc,.int .i64 op,.string sa,.string sb,.bool bs,.slice pw nw cw,.bool FU,.slice pk nk FD,.int .i64 FR,.int .i64 (F.ps:Int),.int .i64 F.bare]) hBS)
      obtain⟨g0,g1,g2,g3,g4,g5,g6,g7,g8,g9,H0,Cz,DW,g13,g14,g15⟩:=fH Lj
      have fw:b1<WS.heap.size:=hlt Lj
      clear S0 hBS Lj
      go_wp2_with (refine wpList_load_mid rfl 55 _ rfl b7 0 rfl [.bool pub,.string ⟨F.nm.toArray⟩,.slice pv nv cv,.int .i64 (F.base:Int),.slice pc nc cc,.int .i64 op,.string sa,.string sb,.bool bs,.slice pw nw cw,.bool FU,.slice pk nk FD,.int .i64 FR,.int .i64 (F.ps:Int),.int .i64 F.bare] _ H4.out Tryz.underlying55 rfl Rb ?_)
      obtain⟨hp,-⟩:=Kk vT.out (.bool pub) (.string ⟨F.nm.toArray⟩) (.slice pv nv cv) (.int .i64 (F.base:Int)) (.slice pc nc cc) (.int .i64 op) (.string sa) (.string sb) (.bool bs) (.slice pw nw cw) (.bool FU) (.slice pk nk FD) (.int .i64 FR) (.int .i64 (F.ps:Int)) (.int .i64 F.bare)
      obtain⟨r0,r1,r2,r3,r4,r5,r6,r7,r8,r9,r10,r11,r12,r13,r14,-⟩:=fH hp
      have i7:=ip.out
      rw [List.take_of_length_le (by have:=zA.out;omega)] at i7
      have abd:=zh (Qn (pub:=pub) kD.out zR h17 j4.out jl.out HFS.out vT.out HSC.out AX.out JU.out HQ9.out HF.out HO.out i7 HQE.out)
      refine bodyPost_ret (v:=.agg #[.bool pub,.string ⟨F.nm.toArray⟩,.slice pv nv cv,.int .i64 (F.base:Int),.slice pc nc cc,.int .i64 op,.string sa,.string sb,.bool bs,.slice pw nw cw,.bool FU,.slice pk nk FD,.int .i64 FR,.int .i64 (F.ps:Int),.int .i64 F.bare]) (by simp [results,Tryz.results53,go_sem,r0,r1,r2,r3,r4,r5,r6,r7,r8,r9,r10,r11,r12,r13,r14]) rfl (by rw [PC.out];exact abd.out)
end Go.Proofs.YtjbgnopnehgbaaaGreatDoor
