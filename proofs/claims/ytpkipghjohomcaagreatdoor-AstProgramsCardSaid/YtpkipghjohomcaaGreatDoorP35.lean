/- Lemmas. -/
import Derived.Test.YtpkipghjohomcaaGreatDoorP34
import Derived.Test.YtpkipghjohomcaaGreatDoorP38
set_option linter.unusedVariables false
set_option linter.unusedSimpArgs false
namespace Go.Proofs.YtpkipghjohomcaaGreatDoor
theorem FBd.era {f:Fx} (h:FBd f):FBd (oQ f):=⟨h.name,h.base,by simp [oQ],fun A m=>by simp [oQ] at m⟩
theorem DBe.era {d:Dx} (h:DBe d):DBe (oG d):=⟨fun m B=>by
 obtain⟨A,E,rfl⟩:=List.mem_map.1 (show m∈d.ps.map oQ from B)
 exact(h.pars A E).era,by rw [show(oG d).ps=d.ps.map oQ from rfl,List.length_map];exact h.few,h.res.era,h.body⟩
theorem PBd.era {P:Px} (h:PBd P):PBd (un P):=⟨h.imps,h.few,fun m B=>by
 obtain⟨A,E,rfl⟩:=List.mem_map.1 (show m∈P.defs.map oG from B)
 exact(h.defs A E).era,by rw [show(un P).defs=P.defs.map oG from rfl,List.length_map];exact h.fewd⟩
theorem DBe.dbd {d:Dx} (h:DBe d):DBd d:=⟨h.body.size,h.body.small,by have:=h.res.name;omega,by have:=h.few;omega,fun m A=>by have:=(h.pars m A).name;omega⟩
open Go.RowKit List
theorem sv {F:Nat->Prop} {w:World} {pd:Option Addr} {ak:List (List Value)} {Y:List Dx} (hg:GAt 14 w pd ak) (eh:RDs F w Y ak) {j:Nat} {d:Dx} (hk:Y[j]? = some d):
  ∃(I:Option Addr) (J:Nat) (B:List (List Value)) (H:Option Addr) (A:Nat) (G:Int) (a b c:ByteArray) (y:Bool) (pk:Option Addr) (nk U:Nat) (O:Int) (g m:Nat),pd=some ⟨g,m,none⟩/\g<w.heap.size/\GAt 5 w I B/\RFs F w d.ps B/\
   cH F w d.res [.string ⟨d.res.nm.toArray⟩,.int .i64 (d.res.base:Int),.slice H d.res.cl.length A,.int .i64 (d.res.ps:Int),.int .i64 d.res.bare]/\RAt F w d.body [.int .i64 G,.string a,.string b,.string c,.bool y,.slice pk nk U,.int .i64 O]/\
   w.cell? ⟨g,m+j*14,none⟩=some (.bool d.pub)/\w.rangeAt g (m+j*14) [.bool d.pub,.slice I d.ps.length J,.string ⟨d.res.nm.toArray⟩,.int .i64 (d.res.base:Int),.slice H d.res.cl.length A,.int .i64 (d.res.ps:Int),.int .i64 d.res.bare,.int .i64 G,.string a,.string b,.string c,.bool y,.slice pk nk U,.int .i64 O]:=by
 obtain⟨aL,L,he⟩:=Hi eh hk
 obtain⟨g,m,rfl,bN,E⟩:=hg.resolve_left (fun ao=>by rw [ao] at L;simp at L)
 obtain⟨I,J,B,qf,qb,rfl,Z,h3,h5,h6,-⟩:=he
 obtain⟨G,a,b,c,y,ax,av,au,ay,rfl⟩:=h3.form
 have ap:=Z
 obtain⟨H,A,Rc,rfl,-⟩:=Z
 have E:=E j _ L
 have R:=E 0 _ rfl
 rw [Nat.add_zero] at R
 exact⟨I,J,B,H,A,G,a,b,c,y,ax,av,au,ay,g,m,rfl,bN,h5,h6,ap,h3,R,fun aq aJ hv=>E aq aJ hv⟩
theorem sj {F:Nat->Prop} {w:World} {H:Option Addr} {J:List (List Value)} {I:List Fx} (Y:GAt 5 w H J) (R:RFs F w I J) {j:Nat} {f:Fx} (Z:I[j]? = some f):
  ∃(z:Option Addr) (c g m:Nat),H=some ⟨g,m,none⟩/\g<w.heap.size/\cH F w f [.string ⟨f.nm.toArray⟩,.int .i64 (f.base:Int),.slice z f.cl.length c,.int .i64 (f.ps:Int),.int .i64 f.bare]/\
   w.cell? ⟨g,m+j*5,none⟩=some (.string ⟨f.nm.toArray⟩)/\w.cell? ⟨g,m+j*5+1,none⟩=some (.int .i64 (f.base:Int))/\w.cell? ⟨g,m+j*5+2,none⟩=some (.slice z f.cl.length c)/\w.cell? ⟨g,m+j*5+3,none⟩=some (.int .i64 (f.ps:Int))/\w.cell? ⟨g,m+j*5+4,none⟩=some (.int .i64 f.bare):=by
 obtain⟨qx,B,G⟩:=Gk R Z
 obtain⟨g,m,rfl,L,A⟩:=Y.resolve_left (fun O=>by rw [O] at B;simp at B)
 have U:=G
 obtain⟨z,c,cr,rfl,-⟩:=G
 have A:=A j _ B
 have E:=A 0 _ rfl
 rw [Nat.add_zero] at E
 exact⟨z,c,g,m,rfl,L,U,E,A 1 _ rfl,A 2 _ rfl,A 3 _ rfl,A 4 _ rfl⟩
theorem Jc {w:World} {E:Option Addr} {l:List (List UInt8×Nat)} (h:GAt 1 w E (l.map rx)) {j:Nat} {x:List UInt8×Nat} (J:l[j]? = some x):∃g m,E=some ⟨g,m,none⟩/\g<w.heap.size/\w.cell? ⟨g,m+j,none⟩=some (.string ⟨x.1.toArray⟩):=by
 have A:(l.map rx)[j]? = some (rx x):=by rw [getElem?_map,J];rfl
 obtain⟨g,m,rfl,G,I⟩:=h.resolve_left (fun H=>by rw [H] at A;simp at A)
 have B:=I j _ A 0 _ rfl
 rw [Nat.add_zero,Nat.mul_one] at B
 exact⟨g,m,rfl,G,B⟩
theorem DY {F:Nat->Prop} {w:World} (f:Fx):cH F w (oQ f) [.string ⟨f.nm.toArray⟩,.int .i64 (f.base:Int),.slice none 0 0,.int .i64 (f.ps:Int),.int .i64 f.bare]:=
 ⟨none,0,[],rfl,.inl rfl,by simp only [oQ,LsR],fun h=>absurd rfl h⟩
def aaR (f:Fx):List UInt8:=jd (oQ f)
def MM (d:Dx):List UInt8:=jF (oG d)
theorem Pm (d:Dx):MM d=(if d.pub=true then [112,117,98,32] else [])++(d.res.nm++(d.ps.flatMap aaR++(32::(dW d.res.base []++([32,61,32]++(cL d.body++[10])))))):=by
 unfold MM jF oG
 simp only [oQ,flatMap_map,Function.comp_def]
 rfl
theorem Om (P:Px):si (un P)=P.imps.flatMap fO++P.defs.flatMap MM:=by
 unfold si un
 simp only [flatMap_map,Function.comp_def]
 rfl
def SmT (T:List Tok) (l:List Tr):Prop:=bK l<=4000/\gt T (cg l)<=5000
theorem Lg:∀ {l:List Tr} {t:Tr},t∈l->szR t<=bK l
 | [],t,h=>by simp at h
 | a::l,t,h=>by
   simp only [bK]
   rcases List.mem_cons.1 h with rfl | h
   ·omega
   ·have:=Lg h;omega
theorem mO {T:List Tok} {l:List Tr} {t:Tr} (h:SmT T l) (m:t∈l):szR t<=4000/\gt T (lvT t)<=5000/\SmT T (eI t):=by
 have A:=Lg m
 have B:gt T (lvT t)<=gt T (cg l):=by
  clear h A
  induction l with
  | nil=>simp at m
  | cons G l E=>
    simp only [cg,mo]
    rcases List.mem_cons.1 m with rfl | m
    ·omega
    ·have:=E m;omega
 refine⟨Nat.le_trans A h.1,Nat.le_trans B h.2,?_⟩
 cases t with
 | lf H=>exact⟨by simp [eI,bK],by simp [eI,cg,lw]⟩
 | nd I J=>
   simp only [szR] at A
   simp only [lvT] at B
   exact⟨by have:=h.1;simp only [eI];omega,Nat.le_trans B h.2⟩
theorem Ie {T:List Tok} {l:List Tr} (h:SmT T l):l.length<=4000:=by
 have A:∀l:List Tr,l.length<=bK l:=fun l=>by
  induction l with
  | nil=>simp
  | cons m l B=>have:=iR m;simp only [hJ,bK];omega
 exact Nat.le_trans (A l) h.1
section
variable {T:List Tok} (hT:∀t∈T,t.text.length<=1500)
include hT
theorem Bh (i:Nat):(tkT T i).text.length<=1500:=by
 unfold tkT
 cases m:T[i]? with
 | none=>simp
 | some t=>exact hT t (gn m)
theorem wG {t:Tr} (B:szR t<=4001) (E:gt T (lvT t)<=5000):XBd (axT T t):=by
 have A:=zb (axT T t)
 have H:=DP T t
 have G:=B7 T t
 exact⟨CL T (fun t m=>by have:=hT t m;omega) t,by omega,by omega,by omega⟩
theorem Lv {f:Fx} {t:Tr} (h:FBd f) (G:szR t<=4000) (H:gt T (lvT t)<=5000):FBd (gT T f t):=by
 cases t with
 | lf B=>
   have:=Bh hT B
   simp only [gT]
   split
   ·exact⟨by show(tkT T B).text.length<=2000;omega,h.base,h.one,h.cls⟩
   ·exact h
 | nd J A=>
   simp only [gT]
   split
   ·exact⟨h.name,by show oX _<100;unfold oX;split<;>omega,h.one,h.cls⟩
   split
   ·refine⟨h.name,h.base,by simp,fun I m=>?_⟩
    have m:I=(bQ T A).headD pW:=List.mem_singleton.1 m
    rw [m]
    have E:(bQ T A).headD pW=axT T (.nd 12 A):=by rw [axT,if_pos rfl]
    rw [E]
    refine wG hT ?_ H
    simp only [szR] at G ⊢;omega
   ·exact h
theorem Ae {l:List Tr} (h:SmT T l):FBd (cm T l):=by
 unfold cm
 have m:FBd (⟨[],0,[],0,0⟩:Fx):=⟨by simp,by decide,by simp,fun J H=>by simp at H⟩
 have B:∀t∈l,szR t<=4000/\gt T (lvT t)<=5000:=fun t A=>⟨(mO h A).1,(mO h A).2.1⟩
 clear h
 revert m
 generalize (⟨[],0,[],0,0⟩:Fx)=G
 intro m
 induction l generalizing G with
 | nil=>exact m
 | cons E l I=>
   rw [List.foldl_cons]
   exact I (fun t A=>B t (by simp [A])) _ (Lv hT m (B E (by simp)).1 (B E (by simp)).2)
theorem SB {l:List Tr} (h:SmT T l):DBe (lG T l):=by
 refine⟨fun A B=>?_,?_,Ae hT h,?_⟩
 ·obtain⟨t,E,rfl⟩:=List.mem_map.1 (show A∈bA T l from B)
  exact Ae hT (mO h (List.mem_filter.1 E).1).2.2
 ·show(bA T l).length<=10000
  unfold bA
  rw [List.length_map]
  have m:=List.length_filter_le (fun t=>aU t == 4) l
  have H:=Ie h
  omega
 ·show XBd (axT T (l.getD (l.length - 2) (.lf 0)))
  rw [List.getD_eq_getElem?_getD]
  cases G:l[l.length - 2]? with
  | none=>
    have:=Bh hT 0
    refine wG hT (by simp [szR]) ?_
    simp only [Option.getD_none,lvT,kp,lw];omega
  | some t=>
    have m:=mO h (gn G)
    exact wG hT (by simp only [Option.getD_some];omega) (by simp only [Option.getD_some];exact m.2.1)
theorem L8 {l:List Tr} (h:SmT T l):PBd (bg T l):=by
 have I:=Ie h
 refine⟨fun H G=>?_,?_,fun A E=>?_,?_⟩
 ·obtain⟨t,m,rfl⟩:=List.mem_map.1 (show H∈(l.filter (fun t=>aU t == 2)).map (fun t=>Cf T (eI t)) from G)
  have:=Bh hT ((ba (eI t)).getD 1 T.length)
  show(tkT T ((ba (eI t)).getD 1 T.length)).text.length<=2000
  omega
 ·show((l.filter (fun t=>aU t == 2)).map (fun t=>Cf T (eI t))).length<=10000
  rw [List.length_map]
  have B:=List.length_filter_le (fun t=>aU t == 2) l
  omega
 ·obtain⟨t,m,rfl⟩:=List.mem_map.1 (show A∈(l.filter (fun t=>aU t == 3)).map (fun t=>lG T (eI t)) from E)
  exact SB hT (mO h (List.mem_filter.1 m).1).2.2
 ·show((l.filter (fun t=>aU t == 3)).map (fun t=>lG T (eI t))).length<=10000
  rw [List.length_map]
  have B:=List.length_filter_le (fun t=>aU t == 3) l
  omega
end
theorem OG {l:List UInt8} {D:Int} (J:l.length<=1500) (h:vB l D false) (I:(aw l D false).length<=2*(ai l).1.length):PBd (oZ l D):=by
 have E:=jG h.lex
 have A:=zT (ai l).1
 rw [jP h.lex] at A
 refine L8 (T:=(ai l).1) (fun m B=>?_) ⟨?_,?_⟩
 ·have G:m.text.length<=((ai l).1.map (fun t=>t.text.length)).sum:=Hv (List.mem_map.2 ⟨m,B,rfl⟩)
  omega
 ·obtain⟨_,_,_,_,_,H,_⟩:=oa h
  omega
 ·rw [nC h.lex D.toNat false h.ok,Ck];omega
end Go.Proofs.YtpkipghjohomcaaGreatDoor
