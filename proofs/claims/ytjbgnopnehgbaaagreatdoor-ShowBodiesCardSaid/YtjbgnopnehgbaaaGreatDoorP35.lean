/- Lemmas. -/
import Derived.Test.YtjbgnopnehgbaaaGreatDoorP27
import Derived.Test.YtjbgnopnehgbaaaGreatDoorP6
set_option linter.unusedVariables false
set_option linter.unusedSimpArgs false
set_option maxHeartbeats 8000000
set_option maxRecDepth 100000
namespace Go.Proofs.YtjbgnopnehgbaaaGreatDoor
open Go.RowKit
theorem jR:∀a b:List Tr,aX (a++b)=aX a++aX b
 | [],b=>rfl
 | .lf i::a,b=>by simp [aX,jR a b]
 | .nd k l::a,b=>by simp [aX,jR a b]
theorem oN:∀l:List Tr,(aX l).length≤l.length
 | []=>Nat.le_refl _
 | .lf i::a=>by have:=oN a;simp only [aX,List.length_cons];omega
 | .nd k l::a=>by have:=oN a;simp only [aX,List.length_cons];omega
theorem gV {α : Type} {l:List α} {j:Nat} {t : α} (h:l[j]? = some t):l.take (j+1)=l.take j++[t]:=by
 rw [List.take_add_one,h];rfl
theorem Rx {l:List Tr} {j i:Nat} (h:l[j]? = some (.lf i)):aX (l.take (j+1))=aX (l.take j)++[i]:=by
 rw [gV h,jR];rfl
theorem Pv {l:List Tr} {j k:Nat} {m:List Tr} (h:l[j]? = some (.nd k m)):aX (l.take (j+1))=aX (l.take j):=by
 rw [gV h,jR];simp [aX]
theorem zM:∀ {l:List Tr} {j i:Nat},l[j]? = some (.lf i)→i∈eo l
 | [],j,i,h=>by simp at h
 | t::l,j,i,h=>by
   simp only [eo,List.mem_append]
   match j,h with
   | 0,h=>simp at h;subst h;left;simp [lvT]
   | j+1,h=>right;exact zM (by simpa using h)
theorem fB:∀ {l:List Tr} {j:Nat} {t:Tr},ix l→l[j]? = some t→kOk t
 | [],j,t,_,h=>by simp at h
 | u::l,j,t,hk,h=>by
   simp only [ix] at hk
   match j,h with
   | 0,h=>simp at h;subst h;exact hk.1
   | j+1,h=>exact fB hk.2 (by simpa using h)
def Ms (T:List Tok) (l:List Tr) (w:World) (e:Ending) (w':World):Prop:=
 w.grownBy w' none∧∃p c,e=.returned (.slice p (aX l).length c)∧TAt w' p ((aX l).map (tkT T))
theorem pW {T:List Tok} {N:List Nd} {K:Kf} (hT:T.length≤150000) (hN:N.length≤150000) {n:Nat} {kd:Int} {tk:Int} {ks:List Int} {l:List Tr} (hx:N[n]? = some ⟨kd,tk,ks⟩) (jX:KT N n ks l) (lJ:ix l) (lH:∀i∈eo l,i<T.length) (ET:l.length≤150000) (pt pn:Option Addr) (ct cn:Nat) (w:World) (ht:TAt w pt T) (h:aE w pn N K):
  Calls Tryz.prog 52 #[.agg #[.slice pt T.length ct,.slice pn N.length cn],.int .i64 (n:Int)] w (Ms T l w):=by
 have lF:=World.grownBy_alloc w (.cells #[.slice pt T.length ct,.slice pn N.length cn] 73) none
 have hA:=heap_alloc_new w (.cells #[.slice pt T.length ct,.slice pn N.length cn] 73)
 have rh:=zh (fun (n:Nat) (x:Nd) W (hx:N[n]? = some x) h=>tL (K:=K) hN hx pt pn T.length ct cn W h)
 have bP:=zh (fun W h=>qz (K:=K) hN hx pt pn T.length ct cn W h)
 have kA:=zh (fun (n i:Nat) W (hx:N[n]? = some ⟨19,(i:Int),[]⟩) (hi:i<T.length) h1 h2=>zx (K:=K) hT hN hx hi pt pn ct cn W h1 h2)
 have C6:=zh (fun W (h:aE W pn N K)=>(h.2 n _ hx))
 have HT:=zh (ht.kept lF);have HN:=zh (h.kept lF);have sD:=zh jX;have Js:=zh lJ;have vB:=zh lH
 have jo:=jX.1
 obtain⟨b,hb⟩:∃b,w.heap.size=b:=⟨_,rfl⟩
 have mD:=zh hb
 rw [hb] at hA
 obtain⟨W,hW⟩:∃W,w.alloc (.cells #[.slice pt T.length ct,.slice pn N.length cn] 73)=W:=⟨_,rfl⟩
 rw [hW] at hA lF HT HN
 obtain⟨mt,vM⟩:∃mt,T.length=mt:=⟨_,rfl⟩
 obtain⟨mn,sM⟩:∃mn,N.length=mn:=⟨_,rfl⟩
 obtain⟨M,hM⟩:∃M,ks.length=M:=⟨_,rfl⟩
 have HM:=zh hM
 rw [vM] at hA hW rh bP kA ⊢
 rw [sM] at hA hW rh bP kA ⊢
 rw [hM] at bP jo
 have hMm:M≤150000:=by omega
 have JB:=zh jo
 have HA:=zh hA;have Bo:=zh lF
 have OY:=zh vM
 obtain⟨a0,a1,a2⟩:=ah hA
 have HKS:Hid (K n=((K n).1,(K n).2)):=zh rfl
 generalize (K n).1=pk at *
 generalize (K n).2=ck at *
 clear ht h jX lJ lH hx hA lF vM sM hM hT hN jo ET
 go_enter Tryz.func52,Tryz.ntmps52
 go_wp2_with fail
 try rw [hb]
 clear hb hW
 refine(bP.out _ HN.out).mono ?_
 rintro e w1 ⟨rfl,bI⟩
 have cZ:=zh bI
 have HT:=zh (HT.out.kept bI);have HN:=zh (HN.out.kept bI)
 have HA:=zh (bx bI HA.out)
 have hA:=HA.out
 obtain⟨a0,a1,a2⟩:=ah hA
 clear hA bI
 go_wp2_with fail
 go_loopw [5,12] (fun ov iv wr=>∃j:Nat,j≤M∧iv=.int .i64 (j:Int)∧Hid (nU 105 wr w1.heap.size ov ((aX (l.take j)).map (tkT T)))∧Hid (Below w1.heap.size w1 wr)) (fun _ iv _=>M - (intOf iv).toNat)
 case atStart=>exact⟨0,Nat.zero_le _,rfl,zh (by simpa [aX] using nU.nil _ _ _),Below.refl _ _⟩
 case round=>
  obtain⟨j,hj,rfl,HO,HB⟩:=hrel
  have da:Hid (w1.grownBy wr none):=zh (bz HB.out)
  have HAr:=zh (bx da.out HA.out)
  have hAr:=HAr.out
  obtain⟨a0,a1,a2⟩:=ah hAr
  have lu:=zh (HN.out.kept da.out);have Bv:=zh (HT.out.kept da.out)
  clear hAr
  by_cases hlt:j<M
  ·obtain⟨t,ht⟩:∃t,l[j]? = some t:=⟨l[j]'(by have:=JB.out;omega),List.getElem?_eq_getElem _⟩
   obtain⟨k,hk,eU,lz⟩:=sD.out.2 j t ht
   obtain⟨g,off,rfl,gc,SO⟩:=gW (C6.out _ lu.out) hk
   have ky:=zh (oN (l.take j))
   have y1:(0:Int)≤(j:Int):=by omega
   have y2:(j:Int)<(M:Int):=by omega
   have y3:decide (j<M)=true:=zd hlt
   have y4:decide ((j:Int)<(M:Int))=true:=zd y2
   cases t with
   | lf i=>
     obtain⟨n',j5,jb⟩:=eU.lf
     have j5:k=n':=by omega
     subst j5
     have YE:=vB.out i (zM ht)
     rw [OY.out] at YE
     have iS:=zh (rh.out k _ wr jb lu.out)
     have wt:=zh (fun W h1 h2=>kA.out k i W jb YE h1 h2)
     have EC:=zh (Rx ht)
     clear ht hk eU lz jb YE
     go_wp2_with fail
     refine iS.out.mono ?_
     rintro e w2 ⟨rfl,bT⟩
     have Yj:=bx bT HAr.out
     have Ph:=zh Yj
     obtain⟨a0,a1,a2⟩:=ah Yj
     have cz:=zh bT
     have ns:=zh (Bv.out.kept bT);have Cw:=zh (lu.out.kept bT)
     clear Yj bT iS
     go_wp2_with fail
     refine(wt.out _ ns.out Cw.out).mono ?_
     rintro e w3 ⟨rfl,fM⟩
     have eg:=zh (aa cz.out fM)
     have HO3:=zh (HO.out.kept eg.out)
     have wP:=zh (Below.trans2 HB.out (Below.gb eg.out HB.out.size))
     clear fM wt
     unfold uN
     have Tl:Hid (nf (tkT T i) = [.int .i64 ((tkT T i).kind:Int),aw (tkT T i).lead,aw (tkT T i).text,.int .i64 ((tkT T i).pos:Int)]):=zh rfl
     unfold aw at Tl ⊢
     have M1:Hid (((aX (l.take j)).map (tkT T)).length≤1000000):=zh (by have h1:=ky.out;have h2:=List.length_take (i:=j) (l:=l);rw [List.length_map];omega)
     go_wp2_with (at_builtin;go_loud (refine mE (t:=39) Tryz.underlying39 JR rfl (by decide) rfl _ _ rfl w1.heap.size ((aX (l.take j)).map (tkT T)) (tkT T i) _ _ _ _ Tl.out u5 rfl HO3.out _ rfl rfl M1.out wP.out.size ?_))
     intro g' bH w4 hO4 hB4
     have HO4:Hid (nU 105 w4 w1.heap.size (.slice (some ⟨g',0,none⟩) ((aX (l.take j)).length+1) bH) ((aX (l.take (j+1))).map (tkT T))):=zh (by rw [EC.out,List.map_append];exact hO4)
     have Ju:=zh (Below.trans2 wP.out hB4)
     clear hO4 hB4
     go_wp2_with fail
     go_roundw
     case rel=>exact⟨j+1,by omega,by go_num,HO4,Ju⟩
     case measure=>simp [intOf];omega
   | nd m q=>
     obtain⟨n',Ik,j5,jb,-⟩:=eU.nd
     have j5:k=n':=by omega
     subst j5
     have sx:=fB Js.out ht
     simp only [kOk] at sx
     have bl:((m:Int) == 19)=false:=beq_eq_false_iff_ne.2 (by omega)
     have agu:(m == 19)=false:=beq_eq_false_iff_ne.2 (by omega)
     have iS:=zh (rh.out k _ wr jb lu.out)
     have EC:=zh (Pv ht)
     clear ht hk eU lz jb sx
     go_wp2_with fail
     refine iS.out.mono ?_
     rintro e w2 ⟨rfl,bT⟩
     have cz:=zh bT
     clear bT iS
     go_wp2_with fail
     go_roundw
     case rel=>exact⟨j+1,by omega,by go_num,zh (by rw [EC.out];exact HO.out.kept cz.out),zh (Below.trans2 HB.out (Below.gb cz.out HB.out.size))⟩
     case measure=>simp [intOf];omega
  ·obtain rfl:j=M:=by omega
   have hO:=HO.out
   rw [List.take_of_length_le (by have:=JB.out;omega)] at hO
   obtain⟨p,c,rfl,eU,-,-,-⟩:=hO.is
   have qY:=zh eU
   have wZ:Hid (((aX l).map (tkT T)).length=(aX l).length):=zh (List.length_map _)
   rw [wZ.out]
   have ZE:=zh (aa (aa Bo.out cZ.out) da.out)
   have HPE:Hid (∀w',w.grownBy w' none→TAt w' p ((aX l).map (tkT T))→Ms T l w (.returned (.slice p (aX l).length c)) w'):=zh (fun w' h1 h2=>⟨h1,p,c,rfl,h2⟩)
   generalize (aX l).length=L at *
   clear eU hO
   go_wp2_with fail
   go_ret
   exact HPE.out _ ZE.out qY.out
set_option maxHeartbeats 4000000
def fy (w:World):Prop:=∀j v,(cU.map aw)[j]? = some v→w.cell? ⟨2,j,none⟩=some v
theorem fy.kept {w w':World} (h:fy w) (hg:w.grownBy w' none):fy w':=fun j v hj=>hg.cell (h j v hj) (by simp)
theorem UI:(Tryz.prog.info? 207).map (·.size)=some (cU.map aw).length:=by kernel_rfl
theorem Xa {L:List (List UInt8)} {k:Nat} {x:List UInt8} (hx:L[k]? = some x) (hb:∀j y,j<k→L[j]? = some y→y≠x):L.idxOf x=k:=by
 induction L generalizing k with
 | nil=>simp at hx
 | cons a L ih=>
   match k,hx,hb with
   | 0,hx,_=>simp at hx;subst hx;simp
   | k+1,hx,hb=>
     have ha:a≠x:=hb 0 a (by omega) rfl
     have hbx:(a == x)=false:=by simpa using ha
     rw [List.idxOf_cons,hbx,cond_false,ih (k:=k) (by simpa using hx) (fun j y hj hy=>hb (j+1) y (by omega) (by simpa using hy))]
theorem Qo {k:Nat} {x:List UInt8} (hx:cU[k]? = some x) (hb:∀j y,j<k→cU[j]? = some y→y≠x):qW x=7+k:=by
 unfold qW
 rw [Xa hx hb,if_pos (by have:=(List.getElem?_eq_some_iff.1 hx).1;exact this)]
theorem GP {x:List UInt8} (hb:∀j y,j<14→cU[j]? = some y→y≠x):qW x=0:=by
 unfold qW
 rw [if_neg]
 intro h
 have h1:cU.idxOf x<cU.length:=h
 have h2:=List.getElem_idxOf h1
 exact hb _ _ h (List.getElem?_eq_getElem h1) h2
theorem Mv (s:ByteArray) (w:World) (h:fy w):Calls Tryz.prog 126 #[.string s] w (aR (.int .i64 (qW s.data.toList:Nat)) w):=by
 have hr:w.rangeAt 2 0 (cU.map aw):=fun j v hj=>by rw [Nat.zero_add];exact h j v hj
 have H4:=zh hr
 clear hr h
 have CS:=zh (toList_data s)
 go_enter Tryz.func126,Tryz.ntmps126
 go_wp2_with (refine wpList_load_mid rfl 207 _ rfl 2 0 rfl (cU.map aw) _ H4.out Tryz.underlying207 rfl UI ?_)
 have HA:Hid (Am (.agg (cU.map aw).toArray) cU):=zh rfl
 generalize Value.agg (cU.map aw).toArray=A at *
 go_wp2
 go_loopw [6] (fun i wr=>∃k:Nat,k≤14∧i=.int .i64 k∧Hid (∀j y,j<k→cU[j]? = some y→y≠s.data.toList)∧wr=w) (fun i _=>14 - (intOf i).toNat)
 case atStart=>exact⟨0,Nat.zero_le _,rfl,zh (fun j y hj=>by omega),rfl⟩
 case round=>
  obtain⟨k,hk,rfl,HC,rfl⟩:=hrel
  by_cases hlt:k<14
  ·have d1:decide ((k:Int)<14)=true:=zd (by omega)
   have uR:decide (k<14)=true:=zd hlt
   obtain⟨x,hx⟩:∃x,cU[k]? = some x:=⟨cU[k]'hlt,List.getElem?_eq_getElem _⟩
   have pj:=HA.out.run (t:=207) (n:=14) Tryz.underlying207 rfl hx
   obtain⟨y,hy⟩:∃y:ByteArray,(⟨x.toArray⟩:ByteArray)=y:=⟨_,rfl⟩
   have lL:y.toList=x:=by rw [toList_data,←hy]
   rw [hy] at pj
   have hw:IntKind.i64.wrap (7+(k:Int))=((7+k:Nat):Int):=by rw [IntWalk.i64_in _ (by omega)];omega
   by_cases he:x=s.data.toList
   ·have d2:(s.toList == y.toList)=true:=by rw [lL,CS.out,he];simp
    have HR:Hid (qW s.data.toList=7+k):=zh (by rw [←he];exact Qo hx (fun j z hj hz=>by rw [he];exact HC.out j z hj hz))
    clear hx he lL hy
    go_wp2
    go_ret
    exact⟨by rw [HR.out];show Ending.returned (.int .i64 (7+(k:Int)))=_;rw [show(((7+k:Nat)):Int)=7+(k:Int) by omega],ad _ _⟩
   ·have d2:(s.toList == y.toList)=false:=by rw [lL,CS.out];simpa using fun e=>he e.symm
    have HR:Hid (∀j y,j<k+1→cU[j]? = some y→y≠s.data.toList):=zh (fun j z hj hz=>by
     by_cases e:j=k
     ·subst e;rw [hx] at hz;cases hz;exact he
     ·exact HC.out j z (by omega) hz)
    clear hx he lL hy
    go_wp2
    go_roundw
    case rel=>exact⟨k+1,by omega,by go_num,HR,by first | rfl | trivial⟩
    case measure=>(simp [intOf]<;>omega)
  ·obtain rfl:k=14:=by omega
   have HR:Hid (qW s.data.toList=0):=zh (GP HC.out)
   go_wp2
   go_ret
   exact⟨by rw [HR.out];rfl,ad _ _⟩
set_option maxHeartbeats 8000000
def dY (b:Bool) (w:World) (e:Ending) (w':World):Prop:=e=.returned (.bool b)∧w.grownBy w' none
theorem yM (s:ByteArray) (w:World) (hs:s.size≤60000) (cg:cM w):Calls Tryz.prog 130 #[.string s] w (dY (di s.data.toList) w):=by
 have HF:=zh (Ft s w (by omega) cg)
 have HW:=zh (fun W=>EZ 1 (by omega) s W (by omega))
 have hb:di s.data.toList=(decide ((aJ s.data.toList).1=1) && (decide ((aJ s.data.toList).2=s.size) && decide (bg 1 s.data.toList=0))):=by
  unfold di
  rw [aM]
  by_cases h1:(aJ s.data.toList).1=1<;>by_cases h2:(aJ s.data.toList).2=s.size<;>by_cases h3:bg 1 s.data.toList=0<;>simp [h1,h2,h3]
 rw [hb]
 obtain⟨k,hk⟩:∃k,(aJ s.data.toList).1=k:=⟨_,rfl⟩
 obtain⟨z,hz⟩:∃z,(aJ s.data.toList).2=z:=⟨_,rfl⟩
 obtain⟨v,hv⟩:∃v,bg 1 s.data.toList=v:=⟨_,rfl⟩
 rw [hk,hz] at HF
 rw [hv] at HW
 rw [hk,hz,hv]
 have HE:Hid (((v:Int) == 0)=decide (v=0)):=zh (by
  by_cases h:v=0
  ·subst h;rfl
  ·rw [decide_eq_false h];exact beq_eq_false_iff_ne.2 (by omega))
 clear hk hz hv hs cg hb
 by_cases h1:k=1
 ·subst h1
  by_cases h2:z=s.size
  ·have e2:((z:Int) == (s.size:Int))=true:=by simp [h2]
   rw [zd h2]
   clear h2
   go_enter Tryz.func130,Tryz.ntmps130
   go_wp2_with (first | (go_at_call 71;refine HF.out.mono ?_;rintro e w1 ⟨rfl,rfl⟩;skip) | (go_at_call 72;refine(HW.out _).mono ?_;rintro e w1 ⟨rfl,rfl⟩;skip))
   go_ret
   exact⟨by rw [HE.out];simp,by repeat (first | with_reducible exact ad _ _ | with_reducible refine aF ?_ | with_reducible refine ae ?_ _)⟩
  ·have e2:((z:Int) == (s.size:Int))=false:=beq_eq_false_iff_ne.2 (by omega)
   rw [decide_eq_false h2]
   clear h2
   go_enter Tryz.func130,Tryz.ntmps130
   go_wp2_with (go_at_call 71;refine HF.out.mono ?_;rintro e w1 ⟨rfl,rfl⟩;skip)
   go_ret
   exact⟨by simp,by repeat (first | with_reducible exact ad _ _ | with_reducible refine aF ?_ | with_reducible refine ae ?_ _)⟩
 ·have e1:((k:Int) == 1)=false:=beq_eq_false_iff_ne.2 (by omega)
  rw [decide_eq_false h1]
  clear h1
  go_enter Tryz.func130,Tryz.ntmps130
  go_wp2_with (go_at_call 71;refine HF.out.mono ?_;rintro e w1 ⟨rfl,rfl⟩;skip)
  go_ret
  exact⟨by simp,by repeat (first | with_reducible exact ad _ _ | with_reducible refine aF ?_ | with_reducible refine ae ?_ _)⟩
end Go.Proofs.YtjbgnopnehgbaaaGreatDoor
set_option maxHeartbeats 400000
namespace Go.Proofs.YtjbgnopnehgbaaaGreatDoor.Zd
open Go.RowKit Mx
theorem Ke (p:Option Addr) (n cap:Nat) (f:Nat→Nat) (w:World) (hn:n≤1099511627776) (h:At .u64 w p n f) (hf:∀j,j<n→f j<Bw) (t:n=0∨f (n - 1)≠0):
  Calls Tryz.prog 149 #[.slice p n cap] w (yC (V Bw f 0 n) w):=by
 by_cases h0:n=0
 ·subst h0
  have bF:yC (V Bw f 0 0) w (.returned (.int .i64 0)) w:=⟨0,rfl,fun _=>rfl,fun h=>absurd rfl h,rfl⟩
  have ec:=zh bF
  clear bF hf
  go_enter Tryz.func149,Tryz.ntmps149
  go_wp2
  go_ret
  exact ec.out
 ·rcases h with h | ⟨g,off,rfl,hg,hc⟩
  ·omega
  obtain⟨m,rfl⟩:∃m,n=m+1:=⟨n - 1,by omega⟩
  have fD:=hc m (by omega)
  have ht:f m≠0:=by simpa using t
  have hfm:f m<18446744073709551616:=hf m (by omega)
  obtain⟨a,b,c⟩:=mg 64 (f m) hfm
  have b:=b ht
  change f m<2 ^ Go.Lib.bitLen (f m) at a
  change 2 ^ Go.Lib.bitLen (f m)≤2*f m at b
  change Go.Lib.bitLen (f m)≤64 at c
  have iA:∀w,Calls Tryz.prog 158 #[.int .u64 (f m)] w fun e w'=>e=.returned (.int .i64 (Go.Lib.bitLen (f m)))∧w=w':=by
   intro w
   refine(Tryz.bits_Len64 (f m:Int) w (by omega) (by omega)).mono ?_
   rintro e w' ⟨rfl,rfl⟩
   exact⟨by rw [Int.toNat_natCast],rfl⟩
  generalize Go.Lib.bitLen (f m)=L at *
  have iO:0<L:=by
   rcases Nat.eq_zero_or_pos L with e | e
   ·subst e;omega
   ·exact e
  have hB:Bw ^ m=2 ^ (64*m):=by rw [Nat.pow_mul];rfl
  have sr:V Bw f 0 m<Bw ^ m:=QC (fun j hj=>by simpa using hf j (by omega))
  have bF:yC (V Bw f 0 (m+1)) w (.returned (.int .i64 (64*(m:Int)+L))) w:=by
   have hv:V Bw f 0 (m+1)=V Bw f 0 m+f m*Bw ^ m:=by rw [gZ,Nat.zero_add]
   rw [hv]
   rw [hB] at sr ⊢
   have hp:0<2 ^ (64*m):=Nat.pow_pos (by omega)
   have k1:1*2 ^ (64*m)≤f m*2 ^ (64*m):=Nat.mul_le_mul_right _ (by omega)
   refine⟨64*m+L,by simp,fun e=>by omega,fun _=>⟨?_,?_,by omega⟩,rfl⟩
   ·have e1:2 ^ (64*m+L - 1)=2 ^ (L - 1)*2 ^ (64*m):=by rw [←Nat.pow_add];congr 1;omega
    have e2:2 ^ L=2*2 ^ (L - 1):=by rw [←Nat.pow_succ'];congr 1;omega
    have:2 ^ (L - 1)*2 ^ (64*m)≤f m*2 ^ (64*m):=Nat.mul_le_mul_right _ (by omega)
    omega
   ·have e1:2 ^ (64*m+L)=2 ^ L*2 ^ (64*m):=by rw [←Nat.pow_add];congr 1;omega
    have:(f m+1)*2 ^ (64*m)≤2 ^ L*2 ^ (64*m):=Nat.mul_le_mul_right _ (by omega)
    rw [Nat.add_mul] at this
    omega
  have ec:=zh bF
  have aC:=zh iA
  clear bF iA hf hc a b t sr hB
  go_enter Tryz.func149,Tryz.ntmps149
  go_wp2_with (go_at_call 158;refine(aC.out _).mono ?_;rintro e w' ⟨rfl,rfl⟩)
  go_ret
  exact ec.out
def sg (Z:Int):Int:=if Z<0 then -1 else if Z=0 then 0 else 1
theorem Sign_c (x:Value) (Z:Int) (w:World) (h:IsInt w x Z):Calls Tryz.prog 131 #[x] w (aR (.int .i64 (sg Z)) w):=by
 obtain⟨s,p,n,cap,f,rfl,h1,h2,h3,h4,h5,h6,rfl⟩:=ub h
 have hg:=World.grownBy_alloc w (.cells #[.bool s,.slice p n cap] 27) none
 by_cases hn:n=0
 ·subst hn
  have bF:aR (.int .i64 (sg (sgn s (V Bw f 0 0)))) w (.returned (.int .i64 0)) (w.alloc (.cells #[.bool s,.slice p 0 cap] 27)):=⟨by cases s<;>simp [sg,sgn,V],hg⟩
  have ec:=zh bF
  clear bF h h3 h4 h5 h6 hg
  go_enter Tryz.func131,Tryz.ntmps131
  go_wp2
  go_ret
  exact ec.out
 ·have hv:=(yp h5).1 (by omega)
  have bl:((n:Int) == 0)=false:=beq_eq_false_iff_ne.2 (by omega)
  cases s
  ·have bF:aR (.int .i64 (sg (sgn false (V Bw f 0 n)))) w (.returned (.int .i64 1)) (w.alloc (.cells #[.bool false,.slice p n cap] 27)):=⟨by
    have:sg (sgn false (V Bw f 0 n))=1:=by simp only [sg,sgn];simp;omega
    rw [this],hg⟩
   have ec:=zh bF
   clear bF h h3 h4 h5 h6 hg hv
   go_enter Tryz.func131,Tryz.ntmps131
   go_wp2
   go_ret
   exact ec.out
  ·have bF:aR (.int .i64 (sg (sgn true (V Bw f 0 n)))) w (.returned (.int .i64 (-1))) (w.alloc (.cells #[.bool true,.slice p n cap] 27)):=⟨by
    have:sg (sgn true (V Bw f 0 n)) = -1:=by simp only [sg,sgn];simp;omega
    rw [this],hg⟩
   have ec:=zh bF
   clear bF h h3 h4 h5 h6 hg hv
   go_enter Tryz.func131,Tryz.ntmps131
   go_wp2
   go_ret
   exact ec.out
theorem Bits_c (x:Value) (Z:Int) (w:World) (h:IsInt w x Z) (hZ:Z.natAbs<Lim):Calls Tryz.prog 132 #[x] w fun e w'=>∃n:Nat,e=.returned (.int .i64 n)∧(Z=0→n=0)∧(Z≠0→2 ^ (n - 1)≤Z.natAbs∧Z.natAbs<2 ^ n∧0<n)∧w.grownBy w' none:=by
 obtain⟨s,p,n,cap,f,rfl,h1,h2,h3,h4,h5,h6,rfl⟩:=ub h
 have hg:=World.grownBy_alloc w (.cells #[.bool s,.slice p n cap] 27) none
 have Rr:(sgn s (V Bw f 0 n)).natAbs=V Bw f 0 n:=by cases s<;>simp [sgn]
 rw [Rr] at hZ
 have hn:=Fe h5 hZ
 unfold tj at hn
 have HC:=zh (Ke p n cap f _ (by omega) (h3.grown hg (by simp)) h4 h5)
 have HG:=zh hg
 have HAB:=zh Rr
 clear h hg h3 h4 h5 h6 hZ Rr
 go_enter Tryz.func132,Tryz.ntmps132
 go_wp2_with (go_at_call 149;refine HC.out.mono ?_;rintro e w1 ⟨k,rfl,iP,Kw,rfl⟩;have iS:=zh iP;have wt:=zh Kw;clear iP Kw)
 go_ret
 refine⟨k,rfl,fun e=>iS.out ?_,fun e=>?_,HG.out⟩
 ·rw [←HAB.out,e];rfl
 ·rw [HAB.out];exact wt.out (by intro e2;apply e;rw [e2];cases s<;>rfl)
end Go.Proofs.YtjbgnopnehgbaaaGreatDoor.Zd
set_option maxHeartbeats 4000000
namespace Go.Proofs.YtjbgnopnehgbaaaGreatDoor
open Go.RowKit
section
variable (b bb:Nat) (T:List Tok) (D n:Nat)
theorem KG (hC:cN T) (hD:D≤200) (hn:n≤D) (hA:bX b bb T D n (fun _=>True) 179 (bC T (NT T D n))) (hB:n<D→bX b bb T D (n+1) (fun _=>True) 178 (aL T D (n+1) (NT T D (n+1)))):bX b bb T D n (fun _=>True) 178 (aL T D n (NT T D n)):=by
 intro s N vn A w hP h
 have aC:=zh hC;have sK:=zh hP
 have mG:=zh hA
 have sF:=zh (vS b bb T D n hD hn (fun _=>True) _ hB)
 have Sa:=zh (fun s hk=>B3 T hn (sub:=aL T D (n+1) (NT T D (n+1))) (sub':=(NT T D n).factor) (fun hlt=>by rw [py T hlt]) s hk)
 have HK:=zh (KX.start h)
 have cW:=zh h.few
 have HA:=zh (bU.nil N s)
 clear h hC hP hD hn hA hB
 go_enter Tryz.func178,Tryz.ntmps178
 go_wp2_with fail
 refine(KX.at (ws:=[[45]]) (HK.out.strs1 _ _) (List.mem_cons_self ..) (by decide)).mono ?_
 rintro e w1 ⟨rfl,hk⟩
 have HK:=zh (hk.nils)
 obtain⟨b1,hb⟩:∃b1,isQ T [45] s=b1:=⟨_,rfl⟩
 rw [at_one aC.out (by decide),hb]
 have nL:=zh hb
 clear hk hb
 cases b1
 ·skip
  go_wp2_with fail
  refine(HK.out.sub mG.out trivial).mono ?_
  rintro e w9 ⟨v9,N9,cD,rfl,al,am,aG⟩
  have HQ:=zh (KX.fin am al aG (r':=(aL T D n (NT T D n)) s) (by unfold aL;rw [if_neg (by rw [nL.out];decide)];exact Eqv.refl _))
  clear al am aG
  go_wp2_with fail
  go_ret
  exact HQ.out
 ·skip
  have aP:=zh (af nL.out)
  go_wp2_with fail
  have HK:=zh HK.out.drew
  go_region_held3 (fun w'=>w'.cell? ⟨b,0,none⟩=some (.pointer (some ⟨bb,0,none⟩))) (first | with_reducible exact HK.out.cell | with_reducible exact(HK.out.alloc _).cell | with_reducible exact((HK.out.alloc _).alloc _).cell | with_reducible exact(((HK.out.alloc _).alloc _).alloc _).cell)
   (first
    | (go_at_call 79;(first | with_reducible refine(HK.out.take aC.out aP.out.1 aP.out.2).mono ?_ | with_reducible refine((HK.out.strs1 _ _).take aC.out aP.out.1 aP.out.2).mono ?_ | with_reducible refine(((HK.out.strs1 _ _).strs1 _ _).take aC.out aP.out.1 aP.out.2).mono ?_);rintro e w9 ⟨v9,N9,cD,rfl,al,am,aG⟩;have HK:=zh al;have HD:=zh (aQ.app HA.out am aG);have HA:=zh HD.out.out;clear al am aG)
    | (go_at_call 82;(first | with_reducible refine(HK.out.call (fun A h=>sF.out _ _ _ A _ trivial h)).mono ?_ | with_reducible refine((HK.out.strs1 _ _).call (fun A h=>sF.out _ _ _ A _ trivial h)).mono ?_ | with_reducible refine(((HK.out.strs1 _ _).strs1 _ _).call (fun A h=>sF.out _ _ _ A _ trivial h)).mono ?_);rintro e w9 ⟨v9,N9,cD,rfl,al,am,aG⟩;have HK:=zh al;have HD:=zh (aQ.app HA.out am aG);have HA:=zh HD.out.out;clear al am aG)
    | (go_at_call 45;have kO:=zh (HD.out.weak (j:=0+1) (by decide));refine(KX.node (k:=0) (kind:=11) (HK.out.ints2 _ _ ) ?_ aC.out.len kO.out ?_ cW.out ?_).mono ?_;exact List.mem_cons_self ..;rfl;simp;rintro e w9 ⟨v9,N9,cD,rfl,al,am⟩;have HK:=zh al;have HZ:=zh am;clear al am))
  all_goals
   have HQ:=zh (KX.fin HZ.out HK.out (fun he=>absurd aP.out.2 he) (r':=(aL T D n (NT T D n)) s) (by rw [show aL T D n (NT T D n) s=fa T D n (NT T D n).factor s from if_pos nL.out];exact Sa.out _ aP.out.2))
   go_wp2_with fail
   go_ret
   exact HQ.out
end
end Go.Proofs.YtjbgnopnehgbaaaGreatDoor
namespace Go.Proofs.YtjbgnopnehgbaaaGreatDoor
theorem J9:∀(f:Nat) (l:List UInt8) (p:Nat) (t:Tok),t∈(iZ f l p).1→∃l' p',t=aY l' p'
 | 0,l,p,t,h=>by simp [iZ] at h
 | f+1,l,p,t,h=>by
   unfold iZ at h
   split at h
   ·simp at h
   split at h
   ·simp at h;exact⟨l,p,h⟩
   ·rcases List.mem_cons.1 h with rfl | h
    ·exact⟨l,p,rfl⟩
    ·exact J9 f _ _ t h
theorem X1:∀x∈KS,(x.head?.any eT)=true→eV.contains x=true:=by decide
theorem X7:∀x∈KS,(x.head?.any cH)=false:=by decide
theorem J7:([]:List UInt8)∉KS:=by decide
theorem AO (p:UInt8→Bool) (a:UInt8) (r:List UInt8) (h:p a=true):((a::r).take (runN p (a::r))).head? = some a:=by
 have:runN p (a::r)=runN p r+1:=by simp [runN,h]
 rw [this];rfl
theorem D9 (m:List UInt8) (h:m.take (aJ m).2∈KS):(aJ m).1=2∨(aJ m).1=4:=by
 cases m with
 | nil=>exact absurd h J7
 | cons a r=>
   rw [ch] at h ⊢
   by_cases h1:eT a=true
   ·rw [if_pos h1] at h ⊢
    have hw:inW a=true:=by unfold inW;rw [h1];rfl
    have hh:=AO inW a r hw
    have:=X1 _ h (by simp only [] at hh ⊢;rw [hh];simpa using h1)
    simp only [] at this ⊢
    rw [if_pos this];exact .inl rfl
   ·rw [if_neg h1] at h ⊢
    by_cases h2:cH a=true
    ·rw [if_pos h2] at h
     have hh:=AO cH a r h2
     have:=X7 _ h
     simp only [] at hh this
     rw [hh] at this
     simp [h2] at this
    ·rw [if_neg h2] at h ⊢
     by_cases h3:0<jV (a::r)
     ·rw [if_pos h3];exact .inr rfl
     ·rw [if_neg h3] at h
      exact absurd h J7
theorem Ch {L:List Tok} {n:Nat} (h:(bV L).length≤n) (hn:n≤1000000):tT L:=fun t ht=>by
 obtain⟨k,hk⟩:=List.getElem?_of_mem ht
 have h1:=rl hk
 have h2:=jS L (k+1)
 rw [h1,List.length_append,List.length_append] at h2
 omega
theorem Bt {l:List UInt8} (h:(ag l).2.1=0) (hl:l.length≤30000):cN (ag l).1:=by
 have h1:=lg h
 refine⟨by omega,Ch (n:=30000) (by rw [ku h];exact hl) (by omega),(oV h).1,fun i t ht hk=>?_⟩
 obtain⟨l',p',rfl⟩:=J9 _ _ _ t (List.mem_of_getElem? ht)
 exact D9 _ hk
end Go.Proofs.YtjbgnopnehgbaaaGreatDoor
