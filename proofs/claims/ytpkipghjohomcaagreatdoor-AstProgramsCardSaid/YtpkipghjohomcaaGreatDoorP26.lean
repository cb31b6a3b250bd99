/- Lemmas. -/
import Derived.LaidMore
import Derived.Lay
import Derived.OpenShut
import Derived.Test.YtpkipghjohomcaaGreatDoorTie
import Derived.Test.YtpkipghjohomcaaGreatDoorP15
set_option linter.unusedVariables false
set_option linter.unusedSimpArgs false
set_option maxRecDepth 100000
namespace Go.Proofs.YtpkipghjohomcaaGreatDoor
open Go.ChangeShapes Go.WideShapes Go.ChangeAt Go.RowKit Go.ChangeMaps
def tH:List (String×DataW Unit):=[("math/bits.deBruijn32tab",Rows.laid_math_bits_deBruijn32tab),("math/bits.deBruijn64tab",Rows.laid_math_bits_deBruijn64tab),("internal/strconv.uint64pow10",Rows.laid_internal_strconv_uint64pow10),("unicode/utf8.acceptRanges",Rows.laid_unicode_utf8_acceptRanges),("touchstone/lex.keys",Rows.laid_touchstone_lex_keys),("touchstone/lex.signs",Rows.laid_touchstone_lex_signs),("touchstone/ast.signs",Rows.laid_touchstone_ast_signs),("unicode/utf8.first",Rows.laid_unicode_utf8_first)]
theorem kW {H:Type} {enc:TypeId×Value->H} {P:Program} {w:World} {base:Nat} {sp:Nat->Bool} {ak:Bool} {R:Nat} {t e:TypeId} {n:Nat} {cs:List Value} {zs:List (List UInt8)} {p:List MemPlace}
  (ht:P.underlying t=some (.array n e)) (he:P.underlying e=some .string) (Z:P.cellsOf e=1) (Ir:P.cellsOf t=n)
  (h:DataW.trod enc P w base sp ak R t cs=some (.agg (zs.map fun L=>.lit (.string L)),p)):cs=zs.map aD:=by
 obtain⟨G,ao,rfl,E,hl,rQ,yo⟩:=DataW.trod_array ht h
 simp only [Prod.mk.injEq,DataW.agg.injEq] at E
 have FG:zs.length=n:=by
  have:=congrArg List.length E.1
  simp at this;omega
 apply List.ext_getElem?
 intro m
 by_cases hi:m<n
 ·have A:=yo m hi
  rw [Z,Nat.mul_one] at A
  have I:G[m]? = some G[m]:=QS (by omega)
  rw [I] at A
  obtain⟨J,Y,hs,_⟩:=DataW.trod_string he A
  have U:cs[m]? = some (.string J):=by
   have:=congrArg (·[0]?) Y
   simpa [List.getElem?_take,List.getElem?_drop] using this
  have B:(G.map (·.1))[m]? = some (DataW.lit (.string J.data.toList):DataW H):=by simp [I,hs]
  rw [<-E.1] at B
  simp only [List.getElem?_map,Option.map_eq_some_iff,DataW.lit.injEq,Lit.string.injEq] at B
  obtain⟨L,hz,O⟩:=B
  rw [U,List.getElem?_map,hz,O]
  rfl
 ·rw [List.getElem?_eq_none (by omega),List.getElem?_eq_none (by simp;omega)]
theorem abg:(Tryz.prog.globals[1]?).map (·.type)=some 194:=by kernel_rfl
theorem Wx:(Tryz.prog.globals[2]?).map (·.type)=some 195:=by kernel_rfl
theorem acm:Tryz.prog.globalNamed "touchstone/ast.signs" = some 0:=by kernel_rfl
theorem ab8:(Tryz.prog.globals[0]?).map (·.type)=some 177:=by kernel_rfl
theorem ZV:Tryz.prog.cellsOf 177=14:=by kernel_rfl
theorem Yz:Tryz.prog.cellsOf 9=1:=by kernel_rfl
theorem aag:Tryz.prog.cellsOf 194=15:=by kernel_rfl
theorem VI:Tryz.prog.cellsOf 195=22:=by kernel_rfl
theorem Si {W:World} (h:laidMetH Tryz.prog tH W):fJ W/\gF W:=by
 rw [MakeChecks.laidMetH_plain _ _ _ (by kernel_rfl)] at h
 obtain⟨ps,⟨g0,t0,ao,f0,p0,q0,sP,aL,aX,P4,⟨g1,t1,ap,f1,p1,q1,cJ,Ea,a0,wU,⟨g2,t2,aq,f2,p2,q2,bL,Fp,K1,X7,⟨g3,t3,au,f3,p3,q3,iU,aO,a1,aJ,⟨g4,t4,av,f4,p4,q4,G,O,Y,I,⟨g5,t5,ax,f5,p5,q5,B,R,Z,J,⟨g6,t6,ay,f6,p6,q6,E,U,ak,L,_,_⟩,_⟩,_⟩,_⟩,_⟩,_⟩,_⟩,_,_⟩:=h
 obtain rfl:=Option.some.inj (acl.symm.trans G)
 obtain rfl:=Option.some.inj (WH.symm.trans B)
 obtain rfl:=Option.some.inj (acm.symm.trans E)
 obtain rfl:=Option.some.inj (abg.symm.trans O)
 obtain rfl:=Option.some.inj (Wx.symm.trans R)
 obtain rfl:=Option.some.inj (ab8.symm.trans U)
 have k1:=kW (zs:=fY) Tryz.underlying194 Tryz.underlying9 Yz aag I
 have k2:=kW (zs:=iP) Tryz.underlying195 Tryz.underlying9 Yz VI J
 have k3:=kW (zs:=bf) Tryz.underlying177 Tryz.underlying9 Yz ZV L
 refine⟨⟨fun A H m=>?_,fun A H m=>?_⟩,fun A H m=>?_⟩
 ·rw [World.var?_cell G Y A,<-Array.getElem?_toList,k1];exact m
 ·rw [World.var?_cell B Z A,<-Array.getElem?_toList,k2];exact m
 ·rw [World.var?_cell E ak A,<-Array.getElem?_toList,k3];exact m
theorem own:ownKnob Tryz.prog.godebug=none:=by kernel_rfl
theorem Bp (os:Os) (m:Array Value):((World.laidAll Tryz.prog os tH).forCall (fun _ _=>0) ⟨#[],m,[]⟩).Shaped Tryz.prog:=World.shaped_of_ZipB (by kernel_rfl) (by kernel_rfl)
theorem Jj (os:Os) (m:Array Value):laidMetH Tryz.prog tH ((World.laidAll Tryz.prog os tH).forCall (fun _ _=>0) ⟨#[],m,[]⟩).memory:=by
 rw [MakeChecks.laidMetH_plain _ _ _ (by kernel_rfl)]
 exact laidMet_laidAll _ (by kernel_rfl) (by kernel_rfl)
set_option maxHeartbeats 8000000
open Go.RowKit List Nat
section
variable {b bb:Nat} {T:List Tok} {D n:Nat} {A0:Nat->Prop} {bt:Value} {w0 w w':World} {s:St} {u:Nat} {N:List Nd} {vn:Value} {L:List (Value×Th)}
theorem KX.setIn (J:KX b bb T D n A0 bt w0 w s u N vn L) (v:Bool):KX b bb T D n A0 bt w0 (w.setCell ⟨b,7,none⟩ (.bool v)) (setIn v s) u N vn L:=by
 obtain⟨A,m,E,G,H,I⟩:=J
 have B:Fr2 (dm b) w (w.setCell ⟨b,7,none⟩ (.bool v)):=(Fr2.refl _ _).setCell (aK b) _
 exact KX.go E G H I m.lt (m.turn (s':=Go.Proofs.YtpkipghjohomcaaGreatDoor.setIn v s) B ((ab (i:=7) m.box).trans rfl) m.ok) (Step.self B)
theorem KX.froz (B:KX b bb T D n A0 bt w0 w s u N vn L):∀o,w.frozen? ⟨b,o,none⟩=false:=by
 obtain⟨A,m,-⟩:=B
 exact(cR m.box).2.2.2.2.2.2.2.2.2.2
theorem KX.onex {v:Value} {ws:List (List UInt8)} (E:KX b bb T D n A0 bt w0 w s s.i N vn L) (B:dC T) (H:∀x∈ws,x∈KS) (G:ws.length<=100) (m:∃A,A=v/\(A,Th.strs ws)∈L):Calls Tryz.prog 78 #[.pointer (some ⟨b,0,none⟩),v] w (jX b bb T D n 1 A0 bt w0 s (oO T ws s) N L):=by
 obtain⟨A,rfl,m⟩:=m
 exact E.one B m G H
theorem EX (v:Bool) (s:St):ae T (setIn v s)=((ae T s).1,setIn v (ae T s).2):=by
 unfold ae aS
 have m:az T (setIn v s)=az T s:=rfl
 rw [m]
 split<;>rfl
theorem vU (x:List UInt8) (v:Bool) (s:St):an T x (setIn v s)=((an T x s).1,setIn v (an T x s).2):=by
 unfold an
 have m:isQ T x (setIn v s)=isQ T x s:=rfl
 rw [m]
 split
 ·exact EX v s
 ·show(([]:List Tr),aH T 22 (setIn v s))=([],setIn v (aH T 22 s))
  unfold aH
  have A:(setIn v s).e=s.e:=rfl
  rw [A]
  split<;>rfl
end
def gM (T:List Tok) (m:St->RT) (s:St):RT:=
 ([.nd 6 ((ae T s).1++(m (setIn true (ae T s).2)).1++(an T [125] (setIn false (m (setIn true (ae T s).2)).2)).1)],(an T [125] (setIn false (m (setIn true (ae T s).2)).2)).2)
def qY (T:List Tok) (m:St->RT) (s:St):RT:=
 ([.nd 6 ((an T [123] (setIn true s)).1++(m (an T [123] (setIn true s)).2).1++(an T [125] (m (an T [123] (setIn true s)).2).2).1)],(an T [125] (m (an T [123] (setIn true s)).2).2).2)
theorem Kj {T:List Tok} {m:St->RT} {s:St} (h:isQ T [123] s=true):((qY T m s).1,setIn false (qY T m s).2)=gM T m s:=by
 have A:an T [123] (setIn true s)=((ae T s).1,setIn true (ae T s).2):=by
  rw [vU]
  have:an T [123] s=ae T s:=by unfold an;rw [if_pos h]
  rw [this]
 unfold qY gM
 rw [A,vU]
section
variable (b bb:Nat) (T:List Tok) (D:Nat)
theorem O8 (hC:dC T) (hD:D<=200) (hB:0<D->cO b bb T D 1 (fun _=>True) 65 (aP T D 1 (NT T D 1))):cO b bb T D 0 (fun s=>s.inn=false/\isQ T [123] s=true) 117 (gM T (NT T D 0).expr):=by
 intro s N vn A w hP h
 have B:=zh hC;have uF:=zh hP
 have R:=zh (fun (s:St) (N:List Nd) (vn:Value) (A:Nat->Prop) (w:World) (hi:s.inn=true) h=>(iC b bb T D 0 hD (zero_le _) (fun _=>True) _ hB s N vn A w trivial h).mono (fun ak w' hp=>hp.eqv (sz T (zero_le _) s hi)))
 have U:Hid ((an T [123] (setIn true s)).2.inn=true):=zh (aB T [123] (setIn true s)).inn
 have Y:Hid ([123]∈KS):=zh (by decide)
 have Z:Hid ([125]∈KS):=zh (by decide)
 have dQ:Hid (N.length<=2*(setIn true s).i):=zh h.few
 have m:=zh (KX.start h)
 have d7:=m.innc
 have d0:=m.cell
 have j0:=m.froz
 have m:Hid (KX b bb T D 0 A vn w (w.setCell ⟨b,7,none⟩ (.bool true)) (setIn true s) (setIn true s).i N vn []):=zh (m.setIn true)
 have J:=zh (cD.nil N (setIn true s))
 clear h hC hP hD hB
 go_enter Tryz.func117,Tryz.ntmps117
 go_wp2_with fail
 clear d7 d0 j0
 generalize (w.setCell ⟨b,7,none⟩ (.bool true))=W1 at *
 have I:=m
 have m:=zh m.drew
 go_region_held3 (fun w'=>w'.cell? ⟨b,0,none⟩=some (.pointer (some ⟨bb,0,none⟩))) (with_reducible first | exact m.out.cell | exact(m.out.alloc _).cell | exact(I.out.alloc _).drew.cell | exact((m.out.alloc _).alloc _).cell | exact((I.out.alloc _).alloc _).drew.cell | exact(((m.out.alloc _).alloc _).alloc _).cell)
  (first
   | (go_at_call 50;have lR:=zh (O.weak (j:=0+1) (by decide));refine(KX.node (k:=0) (kind:=6) (m.ints3 _ _ _ ) ?_ B.len lR.out ?_ dQ.out ?_).mono ?_;exact Yu ..;rfl;simp;rintro ak w9 ⟨v9,N9,dj,rfl,E,G⟩;have m:=zh E;have HZ:=zh G;clear E G)
   | (go_at_call 64;(with_reducible first | refine(m.out.call (fun A h=>R.out _ _ _ A _ U.out h)).mono ?_ | refine((m.out.strs1 _ _).call (fun A h=>R.out _ _ _ A _ U.out h)).mono ?_ | refine((I.out.strs1 _ _).drew.call (fun A h=>R.out _ _ _ A _ U.out h)).mono ?_ | refine(((m.out.strs1 _ _).strs1 _ _).call (fun A h=>R.out _ _ _ A _ U.out h)).mono ?_ | refine(((I.out.strs1 _ _).strs1 _ _).drew.call (fun A h=>R.out _ _ _ A _ U.out h)).mono ?_);rintro ak w9 ⟨v9,N9,dj,rfl,E,G,H⟩;have m:=zh E;have O:=zh (aZ.app J.out G H);have J:=zh O.out.out;clear E G H)
   | (go_at_call 78;(with_reducible first | refine(KX.one1 [123] m.out B.out Y.out ?_).mono ?_ | refine(KX.one1 [123] (m.out.strs1 _ _) B.out Y.out ?_).mono ?_ | refine(KX.one1 [123] (I.out.strs1 _ _).drew B.out Y.out ?_).mono ?_ | refine(KX.one1 [123] ((m.out.strs1 _ _).strs1 _ _) B.out Y.out ?_).mono ?_ | refine(KX.one1 [123] ((I.out.strs1 _ _).strs1 _ _).drew B.out Y.out ?_).mono ?_);(first | (refine⟨_,?_,Yu ..⟩;focus (simp;done)) | (refine⟨_,?_,Q1 _ (Yu ..)⟩;focus (simp;done)) | (refine⟨_,?_,Q1 _ (Q1 _ (Yu ..))⟩;focus (simp;done)));rintro ak w9 ⟨v9,N9,dj,rfl,E,G,H⟩;have m:=zh E;have O:=zh (aZ.app J.out G H);have J:=zh O.out.out;clear E G H)
   | (go_at_call 78;(with_reducible first | refine(KX.one1 [125] m.out B.out Z.out ?_).mono ?_ | refine(KX.one1 [125] (m.out.strs1 _ _) B.out Z.out ?_).mono ?_ | refine(KX.one1 [125] (I.out.strs1 _ _).drew B.out Z.out ?_).mono ?_ | refine(KX.one1 [125] ((m.out.strs1 _ _).strs1 _ _) B.out Z.out ?_).mono ?_ | refine(KX.one1 [125] ((I.out.strs1 _ _).strs1 _ _).drew B.out Z.out ?_).mono ?_);(first | (refine⟨_,?_,Yu ..⟩;focus (simp;done)) | (refine⟨_,?_,Q1 _ (Yu ..)⟩;focus (simp;done)) | (refine⟨_,?_,Q1 _ (Q1 _ (Yu ..))⟩;focus (simp;done)));rintro ak w9 ⟨v9,N9,dj,rfl,E,G,H⟩;have m:=zh E;have O:=zh (aZ.app J.out G H);have J:=zh O.out.out;clear E G H))
 all_goals
  have XW:Hid (aZ 0 N s ((qY T (NT T D 0).expr s).1,setIn false (qY T (NT T D 0).expr s).2) N9 [v9]):=zh ⟨⟨HZ.out.out.1,HZ.out.out.2⟩,HZ.dead⟩
  have HQ:=zh (KX.fin XW (m.setIn false) (fun he=>absurd (ah uF.2).2 he) (r':=gM T (NT T D 0).expr s) (by rw [Kj uF.2];exact Eqv.refl _))
  have d7:=m.innc
  have j0:=m.froz
  go_wp2_with fail
  go_ret
  exact HQ
def nO (b bb:Nat) (T:List Tok) (D n k:Nat) (A0:Nat->Prop) (bt:Value) (w0:World) (s:St) (r:RT) (N:List Nd) (L:List (Value×Th)) (e:Ending) (w':World):Prop:=
 ∃(B:Value) (m:List Int) (A:List Nd) (E:Value),e=.returned B/\KX b bb T D n A0 bt w0 w' r.2 r.2.i A E ((B,.ints m)::L)/\aZ k N s r A m/\(s.e≠0->r.2.e≠0)/\m.length<=300
theorem nO.eqv {b bb:Nat} {T:List Tok} {D n k:Nat} {A0:Nat->Prop} {bt:Value} {w0:World} {s:St} {r r':RT} {N:List Nd} {L:List (Value×Th)} {e:Ending} {w':World} (h:nO b bb T D n k A0 bt w0 s r N L e w') (m:Eqv r r'):nO b bb T D n k A0 bt w0 s r' N L e w':=by
 obtain⟨O,R,A,B,E,G,H,I,J⟩:=h
 exact⟨O,R,A,B,E,m.1▸G,H.eqv m,fun h=>by rw [<-m.1];exact I h,J⟩
def iW (T:List Tok) (s:St):RT:=((an T [58] s).1++[.nd 5 (oO T [[105,110,116],[98,111,111,108]] (an T [58] s).2).1],(oO T [[105,110,116],[98,111,111,108]] (an T [58] s).2).2)
theorem Hb {T:List Tok} (A:dC T) (s:St):Eqv (iW T s) (iY T (an T [58] s)):=by
 unfold iW iY oO
 rw [jW A (by decide)]
 by_cases h:isQ T [105,110,116] (an T [58] s).2=true\/isQ T [98,111,111,108] (an T [58] s).2=true
 ·rw [if_pos h,if_pos (by simpa using h)];exact Eqv.refl _
 ·rw [if_neg h,if_neg (by simpa using h)]
  exact⟨rfl,fun m=>absurd m (df T (by decide) _)⟩
theorem Pl {T:List Tok} {A:St->RT} (B:dC T) {s:St} (h:isQ T [123] (iW T s).2=false):Eqv (iW T s) (cj T A s):=by
 have m:=Hb B s
 unfold cj iD
 rw [if_neg (by rw [<-m.1,h];decide)]
 exact m
theorem Is {T:List Tok} {A:St->RT} (B:dC T) {s:St} (h:isQ T [123] (iW T s).2=true):Eqv ((iW T s).1++(gM T A (iW T s).2).1,(gM T A (iW T s).2).2) (cj T A s):=by
 have m:=Hb B s
 unfold cj iD
 rw [if_pos (by rw [<-m.1];exact h)]
 rw [m.2 (by rw [<-m.1];exact(ah h).2),m.1]
 exact Eqv.refl _
theorem O0 {T:List Tok} {s:St}:(iW T s).2.inn=s.inn:=by
 refine Eq.trans ?_ (aB T [58] s).inn
 show(oO T [[105,110,116],[98,111,111,108]] (an T [58] s).2).2.inn=_
 unfold oO
 split
 ·exact(show(aS T (an T [58] s).2).2.inn=_ from by unfold aS;split<;>rfl)
 ·exact(eS T 22 _ []).inn
theorem GS (hC:dC T) (hX:cO b bb T D 0 (fun s=>s.inn=false/\isQ T [123] s=true) 117 (gM T (NT T D 0).expr)) {A0:Nat->Prop} {bt:Value} {w0 w:World} {s:St} {N:List Nd} {vn:Value} {L:List (Value×Th)} (R:KX b bb T D 0 A0 bt w0 w s s.i N vn L) (hi:s.inn=false):
  Calls Tryz.prog 81 #[.pointer (some ⟨b,0,none⟩)] w (nO b bb T D 0 1 A0 bt w0 s (cj T (NT T D 0).expr s) N L):=by
 have A:=zh hC;have qv:=zh hX;have cU:=zh hi
 have I:Hid ([58]∈KS):=zh (by decide)
 have J:Hid (∀ap∈([[105,110,116],[98,111,111,108]]:List (List UInt8)),ap∈KS):=zh (by decide)
 have O:Hid (([[105,110,116],[98,111,111,108]]:List (List UInt8)).length<=100):=zh (by decide)
 have m:=zh R
 have U:=zh (cD.nil N s)
 clear hC hX R hi
 go_enter Tryz.func81,Tryz.ntmps81
 go_wp2_with fail
 have G:=m
 have m:=zh m.drew
 go_region_held3 (fun w'=>w'.cell? ⟨b,0,none⟩=some (.pointer (some ⟨bb,0,none⟩))) (with_reducible first | exact m.out.cell | exact(m.out.alloc _).cell | exact(G.out.alloc _).drew.cell | exact((m.out.alloc _).alloc _).cell | exact((G.out.alloc _).alloc _).drew.cell)
  (first
   | (go_at_call 50;refine(KX.node (k:=0) (kind:=5) (m.ints1 _) ?_ A.len HB.out ?_ xD.out ?_).mono ?_;exact Yu ..;rfl;simp;rintro ak w9 ⟨v7,N7,QH,rfl,B,E⟩;have m:=zh B;have HZ:=zh E;clear B E)
   | (go_at_call 78;(with_reducible first | refine(KX.one1 [58] m.out A.out I.out ?_).mono ?_ | refine(KX.one1 [58] (m.out.strs1 _ _) A.out I.out ?_).mono ?_ | refine(KX.one1 [58] (G.out.strs1 _ _).drew A.out I.out ?_).mono ?_ | refine(KX.one1 [58] (m.out.strs2 _ _ _) A.out I.out ?_).mono ?_ | refine(KX.one1 [58] (G.out.strs2 _ _ _).drew A.out I.out ?_).mono ?_ | refine(KX.one1 [58] ((m.out.strs1 _ _).strs2 _ _ _) A.out I.out ?_).mono ?_ | refine(KX.one1 [58] ((G.out.strs1 _ _).strs2 _ _ _).drew A.out I.out ?_).mono ?_ | refine(KX.one1 [58] ((m.out.strs2 _ _ _).strs1 _ _) A.out I.out ?_).mono ?_ | refine(KX.one1 [58] ((G.out.strs2 _ _ _).strs1 _ _).drew A.out I.out ?_).mono ?_);(first | (refine⟨_,?_,Yu ..⟩;focus (simp;done)) | (refine⟨_,?_,Q1 _ (Yu ..)⟩;focus (simp;done)) | (refine⟨_,?_,Q1 _ (Q1 _ (Yu ..))⟩;focus (simp;done)));rintro ak w9 ⟨v9,N9,dj,rfl,B,E,H⟩;have m:=zh B;have U:=zh (cD.app U.out E.out H);have xD:=zh B.room;clear B E H)
   | (go_at_call 78;(with_reducible first | refine(KX.onex (ws:=[[105,110,116],[98,111,111,108]]) m.out A.out J.out O.out ?_).mono ?_ | refine(KX.onex (ws:=[[105,110,116],[98,111,111,108]]) (m.out.strs1 _ _) A.out J.out O.out ?_).mono ?_ | refine(KX.onex (ws:=[[105,110,116],[98,111,111,108]]) (G.out.strs1 _ _).drew A.out J.out O.out ?_).mono ?_ | refine(KX.onex (ws:=[[105,110,116],[98,111,111,108]]) (m.out.strs2 _ _ _) A.out J.out O.out ?_).mono ?_ | refine(KX.onex (ws:=[[105,110,116],[98,111,111,108]]) (G.out.strs2 _ _ _).drew A.out J.out O.out ?_).mono ?_ | refine(KX.onex (ws:=[[105,110,116],[98,111,111,108]]) ((m.out.strs1 _ _).strs2 _ _ _) A.out J.out O.out ?_).mono ?_ | refine(KX.onex (ws:=[[105,110,116],[98,111,111,108]]) ((G.out.strs1 _ _).strs2 _ _ _).drew A.out J.out O.out ?_).mono ?_ | refine(KX.onex (ws:=[[105,110,116],[98,111,111,108]]) ((m.out.strs2 _ _ _).strs1 _ _) A.out J.out O.out ?_).mono ?_ | refine(KX.onex (ws:=[[105,110,116],[98,111,111,108]]) ((G.out.strs2 _ _ _).strs1 _ _).drew A.out J.out O.out ?_).mono ?_);(first | (refine⟨_,?_,Yu ..⟩;focus (simp;done)) | (refine⟨_,?_,Q1 _ (Yu ..)⟩;focus (simp;done)) | (refine⟨_,?_,Q1 _ (Q1 _ (Yu ..))⟩;focus (simp;done)));rintro ak w9 ⟨v8,N8,YO,rfl,B,E,H⟩;have m:=zh B;have HB:=zh E;have mf:=zh H;clear B E H))
 all_goals
  have m:Hid (KX b bb T D 0 A0 bt w0 w9 (iW T s).2 (iW T s).2.i N7 QH L):=zh (m.few (by repeat (first | exact List.Sublist.refl _ | refine List.Sublist.cons _ ?_)))
  have Y:Hid (aZ 1 N s (iW T s) N7 [v9,v7]):=zh ((aZ.app U HZ mf).weak (by decide))
  have Z:Hid (s.e≠0->(iW T s).2.e≠0):=zh (fun h=>mf (by rw [(aB T [58] s).dead h];exact h))
  have m:=zh (m.ints2 v9 v7)
  clear U HZ HB mf
  go_wp2_with fail
  refine(KX.atx (ws:=[[123]]) (m.strs1 _ _) ⟨_,by simp,Yu ..⟩ (by decide)).mono ?_
  rintro ak w2 ⟨rfl,R⟩
  have m:=zh (R.few (vi _ _))
  obtain⟨b1,hb⟩:=zx (isQ T [123] (iW T s).2)
  rw [at_one A.out (by decide),hb]
  have lk:=zh hb
  clear R hb
  cases b1
  ·have HQ:Hid (nO b bb T D 0 1 A0 bt w0 s (cj T (NT T D 0).expr s) N L (.returned (.slice (some ⟨w9.heap.size,0,none⟩) 2 2)) w2):=zh (nO.eqv ⟨_,_,_,_,rfl,m,Y,Z,by simp⟩ (Pl A lk))
   go_wp2_with fail
   go_ret
   exact HQ
  ·go_wp2_with fail
   refine(m.sub qv ⟨O0.trans cU,lk⟩).mono ?_
   rintro ak w3 ⟨v6,N6,aq,rfl,B,E,H⟩
   have m:=zh B;have Y:=zh ((aZ.app Y.out.out E H).weak (j:=1) (by decide));have Z:=zh (fun h=>H (Z h))
   clear B E H
   go_wp2_with (at_builtin;go_loud (refine bD rfl _ _ rfl (m.ints1 v6) (vi _ _) rfl rfl (l2:=[v6]) rfl (qh _ _) (by simp) (by simp) ?_))
   intro ao w6 my
   have HQ:Hid (nO b bb T D 0 1 A0 bt w0 s (cj T (NT T D 0).expr s) N L (.returned ao) w6):=zh (nO.eqv (r:=((iW T s).1++(gM T (NT T D 0).expr (iW T s).2).1,(gM T (NT T D 0).expr (iW T s).2).2)) ⟨_,_,_,_,rfl,my,Y,Z,by simp⟩ (Is A lk))
   clear my
   go_wp2_with fail
   go_ret
   exact HQ
end
end Go.Proofs.YtpkipghjohomcaaGreatDoor
namespace Go.Proofs.YtpkipghjohomcaaGreatDoor
open Go.RowKit List
theorem oE {T:List Tok} {D:Nat} (s:St) (h:s.inn=false):(cj T (NT T D 0).expr s).2.inn=false:=by
 unfold cj iD
 have B:(iY T (an T [58] s)).2.inn=false:=by
  unfold iY
  have A:=(aB T [58] s).inn
  split
  ·rename_i m
   have E:(an T [58] s).2.e=0:=by rcases m with m | m<;>exact(ah m).2
   exact(aA T E).inn.trans (A.trans h)
  ·exact(eS T 22 (an T [58] s).2 []).inn.trans (A.trans h)
 split
 ·exact(aB T [125] _).inn
 ·exact B
theorem wt {T:List Tok} {D:Nat} (s:St) (h:s.e≠0):(cj T (NT T D 0).expr s).2=s:=by
 have m:=(aB T [58] s).dead h
 unfold cj iD iY
 have A:∀B,isQ T B (an T [58] s).2=false:=fun B=>mi (by rw [m];exact h)
 have E:¬(isQ T [105,110,116] (an T [58] s).2=true\/isQ T [98,111,111,108] (an T [58] s).2=true):=by rw [A,A];decide
 have G:aH T 22 (an T [58] s).2=s:=by rw [m,ic T h]
 rw [if_neg E]
 show(if isQ T [123] (aH T 22 (an T [58] s).2)=true then _ else _:RT).2=s
 rw [G,if_neg (by rw [mi h];decide)]
theorem qB {T:List Tok} {D:Nat} (s:St) (h:s.inn=false):(fD T (NT T D 0).expr s).2.inn=false:=oE _ ((bY T 1 s).inn.trans h)
theorem qA {T:List Tok} {D:Nat} (s:St) (h:s.e≠0):(fD T (NT T D 0).expr s).2=s:=by
 have m:=(bY T 1 s).dead h
 show(cj T (NT T D 0).expr (aM T 1 s).2).2=s
 rw [wt _ (by rw [m];exact h),m]
section
variable (b bb:Nat) (T:List Tok) (D:Nat)
theorem Lk (hC:dC T) (hX:cO b bb T D 0 (fun m=>m.inn=false/\isQ T [123] m=true) 117 (gM T (NT T D 0).expr)):QO b bb T D 0 (fun m=>m.inn=false) 116 (fD T (NT T D 0).expr):=by
 intro Z bt w0 w m I vn L aq hP H hm
 have aJ:=zh hC
 have JU:=zh (fun (w:World) (m:St) (I:List Nd) (vn:Value) (L:List (Value×Th)) (H:KX b bb T D 0 Z bt w0 w m m.i I vn L) (hi:m.inn=false)=>GS b bb T D hC hX H hi)
 have A:=zh H;have G:=zh hm
 have dQ:=zh H.room
 have cU:Hid ((aM T 1 m).2.inn=false):=zh ((bY T 1 m).inn.trans hP)
 have JK:Hid (m.e≠0->(fD T (NT T D 0).expr m).2.e≠0):=zh (fun h=>by rw [qA m h];exact h)
 have c0:=H.boxc hm
 have U:=zh (cD.nil I m)
 clear hC hX H hP hm
 go_enter Tryz.func116,Tryz.ntmps116
 go_wp2_with fail
 have bM:=A
 have A:=zh A.drew
 go_region_held3 (fun w'=>w'.cell? ⟨aq,0,none⟩=some (.pointer (some ⟨b,0,none⟩))) (first | exact A.boxc G.out | exact A.boxc (Q1 _ G) | exact A.boxc (Q1 _ (Q1 _ G)) | exact(A.alloc _).boxc G.out | exact(A.alloc _).boxc (Q1 _ G))
  (first
   | (refine oy rfl _ _ rfl A (vi _ _) rfl rfl (l2:=Y) rfl zQ (by simp) (by have:=BX.out;omega) ?_;intro ak R B;have A:=zh B;clear B)
   | (refine oy rfl _ _ rfl (A.ints1 _) (List.Sublist.cons_cons _ (vi _ _)) rfl rfl (l2:=Y) rfl (Jk _) (by simp) (by have:=BX.out;omega) ?_;intro ak R B;have A:=zh B;clear B)
   | (go_at_call 51;(with_reducible refine(A.out.word aJ.out).mono ?_);rintro ao R ⟨v9,N9,dj,rfl,B,O,J⟩;have A:=zh B;have U:=zh (U.out.app O.out J);clear B O J)
   | (go_at_call 81;(with_reducible first | refine(JU.out _ _ _ _ _ A.out cU.out).mono ?_ | refine(JU.out _ _ _ _ _ (A.out.ints1 _) cU.out).mono ?_);rintro ao R ⟨lv,Y,N8,YO,rfl,B,O,J,E⟩;obtain⟨q7,c7,rfl,xI,-,-⟩:=B.list (Yu ..);have A:=zh B;have zQ:=zh xI;have Jk:=zh (fun au=>xI.kept (af (ad R none) au));have BX:=zh E;have HD:=zh (aZ.app U.out O J);clear B O J E xI))
 all_goals
  obtain⟨l9,E⟩:=zx ([v9]++Y)
  have Bf:Hid (l9.length<=310):=zh (by rw [<-E,Q2];have:=BX.out;simp;omega)
  have A:Hid (KX b bb T D 0 Z bt w0 R (cj T (NT T D 0).expr (aM T 1 m).2).2 (cj T (NT T D 0).expr (aM T 1 m).2).2.i N8 YO ((ak,.ints l9)::L)):=zh (by
   have h9:=A.few (L':=(ak,.ints ([v9]++Y))::L) (by first | exact List.Sublist.refl _ | exact List.Sublist.cons_cons _ (vi _ _))
   rw [E] at h9;exact h9)
  have ap:Hid (aZ (0+1) I m ((aM T 1 m).1++(cj T (NT T D 0).expr (aM T 1 m).2).1,(cj T (NT T D 0).expr (aM T 1 m).2).2) N8 l9):=zh (by rw [<-E];exact HD.weak (by decide))
  clear E U HD
  have c0:=A.boxc (Q1 _ G)
  have d0:=A.cell
  go_wp2_with fail
  refine(KX.node (k:=0) (kind:=4) A (Yu ..) aJ.len ap rfl dQ (by have:=Bf.out;omega)).mono ?_
  rintro ao w8 ⟨v6,N6,av,rfl,my,YJ⟩
  have HQ:Hid (jX b bb T D 0 0 Z bt w0 m (fD T (NT T D 0).expr m) I L (.returned (.int .i64 v6)) w8):=zh ⟨v6,N6,av,rfl,my.few (vi _ _),YJ,JK⟩
  clear my YJ c0 d0
  go_wp2_with fail
  go_ret
  exact HQ
end
end Go.Proofs.YtpkipghjohomcaaGreatDoor
set_option maxHeartbeats 4000000
namespace Go.Proofs.YtpkipghjohomcaaGreatDoor
open Go.RowKit List
section
variable (b bb:Nat) (T:List Tok) (D n:Nat)
theorem QX (hC:dC T) (hD:D<=200) (hn:n<=D) (hB:n<D->cO b bb T D (n+1) (fun _=>True) 65 (aP T D (n+1) (NT T D (n+1)))) (hE:n<D->cO b bb T D (n+1) (fun I=>I.inn=false) 82 (gJ T D (n+1) (NT T D (n+1)))):cO b bb T D n (fun I=>isQ T [40] I=true) 173 (Np T (NT T D n)):=by
 intro I ak vn A w hP h
 have H:=zh hC;have uF:=zh hP
 have qP:=zh (iC b bb T D n hD hn (fun _=>True) _ hB)
 have Bc:=zh (iB b bb T D n hD hn (fun I=>I.inn=false) _ hE)
 have El:=zh (fun (I:St) (ak:List Nd) (vn:Value) (A:Nat->Prop) (w:World) (hi:I.inn=true) h=>(qP I ak vn A w trivial h).mono (fun Z w' hp=>hp.eqv (sz T hn I hi)))
 have ZB:=zh (fun (I:St) (ak:List Nd) (vn:Value) (A:Nat->Prop) (w:World) (hi:I.inn=false) h=>(Bc I ak vn A w hi h).mono (fun Z w' hp=>hp.eqv (sG T hn I hi)))
 have B:=zh (ah hP)
 have Y:Hid ([41]∈KS):=zh (by decide)
 have m:=zh (KX.start h)
 have dQ:=zh h.few
 have R:=zh (cD.nil ak I)
 have d0:=m.cell
 have d7:=m.innc
 obtain⟨ao,hI⟩:=zx I.inn
 have U:=zh hI
 rw [hI] at d7
 clear hI
 clear h hC hP hD hn hB hE
 go_enter Tryz.func173,Tryz.ntmps173
 cases ao
 ·skip
  go_wp2_with fail
  have L:=m
  have m:=zh m.drew
  go_region_held3 (fun w'=>w'.cell? ⟨b,0,none⟩=some (.pointer (some ⟨bb,0,none⟩))) (with_reducible first | exact m.out.cell | exact(m.out.alloc _).cell | exact(L.out.alloc _).drew.cell | exact((m.out.alloc _).alloc _).cell | exact((L.out.alloc _).alloc _).drew.cell | exact(((m.out.alloc _).alloc _).alloc _).cell)
   (first
    | (go_at_call 79;(with_reducible first | refine(m.out.take H.out B.out.1 B.out.2).mono ?_ | refine((m.out.strs1 _ _).take H.out B.out.1 B.out.2).mono ?_ | refine((L.out.strs1 _ _).drew.take H.out B.out.1 B.out.2).mono ?_ | refine(((m.out.strs1 _ _).strs1 _ _).take H.out B.out.1 B.out.2).mono ?_ | refine(((L.out.strs1 _ _).strs1 _ _).drew.take H.out B.out.1 B.out.2).mono ?_);rintro Z w9 ⟨v9,N9,dj,rfl,E,G,J⟩;have m:=zh E;have O:=zh (aZ.app R.out G J);have R:=zh O.out.out;clear E G J)
    | (go_at_call 64;(with_reducible first | refine(m.out.call (fun A h=>ZB.out _ _ _ A _ ((aA T B.out.2).inn.trans U.out) h)).mono ?_ | refine((m.out.strs1 _ _).call (fun A h=>ZB.out _ _ _ A _ ((aA T B.out.2).inn.trans U.out) h)).mono ?_ | refine((L.out.strs1 _ _).drew.call (fun A h=>ZB.out _ _ _ A _ ((aA T B.out.2).inn.trans U.out) h)).mono ?_ | refine(((m.out.strs1 _ _).strs1 _ _).call (fun A h=>ZB.out _ _ _ A _ ((aA T B.out.2).inn.trans U.out) h)).mono ?_ | refine(((L.out.strs1 _ _).strs1 _ _).drew.call (fun A h=>ZB.out _ _ _ A _ ((aA T B.out.2).inn.trans U.out) h)).mono ?_);rintro Z w9 ⟨v9,N9,dj,rfl,E,G,J⟩;have m:=zh E;have O:=zh (aZ.app R.out G J);have R:=zh O.out.out;clear E G J)
    | (go_at_call 78;(with_reducible first | refine(KX.one1 [41] m.out H.out Y.out ?_).mono ?_ | refine(KX.one1 [41] (m.out.strs1 _ _) H.out Y.out ?_).mono ?_ | refine(KX.one1 [41] (L.out.strs1 _ _).drew H.out Y.out ?_).mono ?_ | refine(KX.one1 [41] ((m.out.strs1 _ _).strs1 _ _) H.out Y.out ?_).mono ?_ | refine(KX.one1 [41] ((L.out.strs1 _ _).strs1 _ _).drew H.out Y.out ?_).mono ?_);(first | exact⟨_,(by first | rfl | simp),Yu ..⟩ | exact⟨_,(by first | rfl | simp),Q1 _ (Yu ..)⟩ | exact⟨_,(by first | rfl | simp),Q1 _ (Q1 _ (Yu ..))⟩);rintro Z w9 ⟨v9,N9,dj,rfl,E,G,J⟩;have m:=zh E;have O:=zh (aZ.app R.out G J);have R:=zh O.out.out;clear E G J)
    | (go_at_call 50;have lR:=zh (O.weak (j:=0+1) (by decide));refine(KX.node (k:=0) (kind:=12) (m.ints3 _ _ _ ) ?_ H.len lR.out ?_ dQ.out ?_).mono ?_;exact Yu ..;rfl;simp;rintro Z w9 ⟨v9,N9,dj,rfl,E,G⟩;have m:=zh E;have HZ:=zh G;clear E G))
  all_goals
   have HQ:=zh (KX.fin HZ m (fun he=>absurd B.2 he) (r':=(Np T (NT T D n)) I) (Eqv.refl _))
   go_wp2_with fail
   go_ret
   exact HQ
 ·skip
  go_wp2_with fail
  have L:=m
  have m:=zh m.drew
  go_region_held3 (fun w'=>w'.cell? ⟨b,0,none⟩=some (.pointer (some ⟨bb,0,none⟩))) (with_reducible first | exact m.out.cell | exact(m.out.alloc _).cell | exact(L.out.alloc _).drew.cell | exact((m.out.alloc _).alloc _).cell | exact((L.out.alloc _).alloc _).drew.cell | exact(((m.out.alloc _).alloc _).alloc _).cell)
   (first
    | (go_at_call 79;(with_reducible first | refine(m.out.take H.out B.out.1 B.out.2).mono ?_ | refine((m.out.strs1 _ _).take H.out B.out.1 B.out.2).mono ?_ | refine((L.out.strs1 _ _).drew.take H.out B.out.1 B.out.2).mono ?_ | refine(((m.out.strs1 _ _).strs1 _ _).take H.out B.out.1 B.out.2).mono ?_ | refine(((L.out.strs1 _ _).strs1 _ _).drew.take H.out B.out.1 B.out.2).mono ?_);rintro Z w9 ⟨v9,N9,dj,rfl,E,G,J⟩;have m:=zh E;have O:=zh (aZ.app R.out G J);have R:=zh O.out.out;clear E G J)
    | (go_at_call 64;(with_reducible first | refine(m.out.call (fun A h=>El.out _ _ _ A _ ((aA T B.out.2).inn.trans U.out) h)).mono ?_ | refine((m.out.strs1 _ _).call (fun A h=>El.out _ _ _ A _ ((aA T B.out.2).inn.trans U.out) h)).mono ?_ | refine((L.out.strs1 _ _).drew.call (fun A h=>El.out _ _ _ A _ ((aA T B.out.2).inn.trans U.out) h)).mono ?_ | refine(((m.out.strs1 _ _).strs1 _ _).call (fun A h=>El.out _ _ _ A _ ((aA T B.out.2).inn.trans U.out) h)).mono ?_ | refine(((L.out.strs1 _ _).strs1 _ _).drew.call (fun A h=>El.out _ _ _ A _ ((aA T B.out.2).inn.trans U.out) h)).mono ?_);rintro Z w9 ⟨v9,N9,dj,rfl,E,G,J⟩;have m:=zh E;have O:=zh (aZ.app R.out G J);have R:=zh O.out.out;clear E G J)
    | (go_at_call 78;(with_reducible first | refine(KX.one1 [41] m.out H.out Y.out ?_).mono ?_ | refine(KX.one1 [41] (m.out.strs1 _ _) H.out Y.out ?_).mono ?_ | refine(KX.one1 [41] (L.out.strs1 _ _).drew H.out Y.out ?_).mono ?_ | refine(KX.one1 [41] ((m.out.strs1 _ _).strs1 _ _) H.out Y.out ?_).mono ?_ | refine(KX.one1 [41] ((L.out.strs1 _ _).strs1 _ _).drew H.out Y.out ?_).mono ?_);(first | exact⟨_,(by first | rfl | simp),Yu ..⟩ | exact⟨_,(by first | rfl | simp),Q1 _ (Yu ..)⟩ | exact⟨_,(by first | rfl | simp),Q1 _ (Q1 _ (Yu ..))⟩);rintro Z w9 ⟨v9,N9,dj,rfl,E,G,J⟩;have m:=zh E;have O:=zh (aZ.app R.out G J);have R:=zh O.out.out;clear E G J)
    | (go_at_call 50;have lR:=zh (O.weak (j:=0+1) (by decide));refine(KX.node (k:=0) (kind:=12) (m.ints3 _ _ _ ) ?_ H.len lR.out ?_ dQ.out ?_).mono ?_;exact Yu ..;rfl;simp;rintro Z w9 ⟨v9,N9,dj,rfl,E,G⟩;have m:=zh E;have HZ:=zh G;clear E G))
  all_goals
   have HQ:=zh (KX.fin HZ m (fun he=>absurd B.2 he) (r':=(Np T (NT T D n)) I) (Eqv.refl _))
   go_wp2_with fail
   go_ret
   exact HQ
end
end Go.Proofs.YtpkipghjohomcaaGreatDoor
