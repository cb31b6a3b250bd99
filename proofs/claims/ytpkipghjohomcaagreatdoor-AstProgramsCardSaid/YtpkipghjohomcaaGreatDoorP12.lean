/- Lemmas. -/
import Derived.Test.YtpkipghjohomcaaGreatDoorP7
set_option linter.unusedVariables false
set_option linter.unusedSimpArgs false
set_option maxHeartbeats 8000000
set_option maxRecDepth 100000
namespace Go.Proofs.YtpkipghjohomcaaGreatDoor
open Go.RowKit Go.World
def dn (x:Ex) (w:World) (e:Ending) (A:World):Prop:=w.grownBy A none/\∃m,e=.returned (.agg m.toArray)/\EAt (fun B=>w.heap.size<=B) A x m/\m[6]? = some (.slice none 0 0)
theorem iu {F:Nat->Prop} {w:World} {m E:Nat} {B A:List UInt8} {G:Bool} (H:m≠1):EAt F w (.mk m B A [] G [] E) [.int .i64 (m:Int),aD B,aD A,.bool false,.slice none 0 0,.bool G,.slice none 0 0,.int .i64 (E:Int)]:=by
 simp only [EAt]
 exact⟨false,none,0,0,none,0,[],rfl,by unfold ff;rw [if_neg H];exact⟨rfl,rfl,rfl,rfl⟩,GAt.nil,by simp [LsE],fun h=>absurd rfl h⟩
theorem three (w:World) (A B C:Obj):∃(W:World) (b0 m E:Nat),W=((w.alloc A).alloc B).alloc C/\w.heap.size=b0/\w.heap.size+1=m/\w.heap.size+1+1=E/\W.heap[b0]? = some A/\W.heap[m]? = some B/\W.heap[E]? = some C/\w.grownBy W none/\b0<m/\m<E:=by
 have I:=YK w A
 have G:=YK (w.alloc A) B
 have H:=YK ((w.alloc A).alloc B) C
 have J:(w.alloc A).heap.size=w.heap.size+1:=by simp
 have L:((w.alloc A).alloc B).heap.size=w.heap.size+1+1:=by simp
 rw [J] at G
 rw [L] at H
 exact⟨_,_,_,_,rfl,rfl,rfl,rfl,bx (qn _ _ none) (bx (qn _ _ none) I),bx (qn _ _ none) G,H,af (af (af (ad _ _) _) _) _,by omega,by omega⟩
theorem abO (T:List Tok) (p:Option Addr) (c:Nat) (w:World) (L:T.length<=150000) (A:0<T.length) (G:TAt w p T):
  Calls Tryz.prog 66 #[.int .i64 8,.slice p T.length c] w (dn (bR 8 (tkT T) []) w):=by
 obtain⟨ak,ap,rfl,Z,U,H,I,Y⟩:=cF G (i:=0) A
 rw [Nat.zero_mul,Nat.add_zero] at U H I Y
 have J:Hid (∀B,w.grownBy B none->dn (bR 8 (tkT T) []) w (.returned (.agg #[.int .i64 21,.string ⟨#[]⟩,.string ⟨#[]⟩,.bool false,.slice none 0 0,.bool false,.slice none 0 0,.int .i64 ((tkT T 0).pos:Int)])) B):=zh (fun B O=>⟨O,_,rfl,iu (by decide),rfl⟩)
 obtain⟨m,E⟩:=zx T.length
 rw [E] at L A ⊢
 have z0:decide (0<m)=true:=zd A
 have yF:=zE ((0:Int)<(m:Int))
 unfold aD at H I
 generalize (⟨(tkT T 0).lead.toArray⟩:ByteArray)=le at *
 generalize (⟨(tkT T 0).text.toArray⟩:ByteArray)=te at *
 generalize (tkT T 0).kind=ao at *
 generalize (tkT T 0).pos=R at *
 clear G E
 go_enter Tryz.func66,Tryz.ntmps66
 go_wp2_with fail
 refine bodyPost_ret (v:=.agg #[.int .i64 21,.string ⟨#[]⟩,.string ⟨#[]⟩,.bool false,.slice none 0 0,.bool false,.slice none 0 0,.int .i64 (R:Int)]) (by simp [results,Tryz.results66,go_sem]) rfl (J _ gbx)
theorem aa0 (T:List Tok) (p:Option Addr) (c:Nat) (w:World) (L:T.length<=150000) (A:0<T.length) (G:TAt w p T):
  Calls Tryz.prog 66 #[.int .i64 9,.slice p T.length c] w (dn (bR 9 (tkT T) []) w):=by
 obtain⟨ak,ap,rfl,Z,U,H,I,Y⟩:=cF G (i:=0) A
 rw [Nat.zero_mul,Nat.add_zero] at U H I Y
 have J:Hid (∀B,w.grownBy B none->dn (bR 9 (tkT T) []) w (.returned (.agg #[.int .i64 23,.string ⟨#[]⟩,.string ⟨#[]⟩,.bool false,.slice none 0 0,.bool false,.slice none 0 0,.int .i64 ((tkT T 0).pos:Int)])) B):=zh (fun B O=>⟨O,_,rfl,iu (by decide),rfl⟩)
 obtain⟨m,E⟩:=zx T.length
 rw [E] at L A ⊢
 have z0:decide (0<m)=true:=zd A
 have yF:=zE ((0:Int)<(m:Int))
 unfold aD at H I
 generalize (⟨(tkT T 0).lead.toArray⟩:ByteArray)=le at *
 generalize (⟨(tkT T 0).text.toArray⟩:ByteArray)=te at *
 generalize (tkT T 0).kind=ao at *
 generalize (tkT T 0).pos=R at *
 clear G E
 go_enter Tryz.func66,Tryz.ntmps66
 go_wp2_with fail
 refine bodyPost_ret (v:=.agg #[.int .i64 23,.string ⟨#[]⟩,.string ⟨#[]⟩,.bool false,.slice none 0 0,.bool false,.slice none 0 0,.int .i64 (R:Int)]) (by simp [results,Tryz.results66,go_sem]) rfl (J _ gbx)
theorem XG (T:List Tok) (p:Option Addr) (c:Nat) (w:World) (L:T.length<=150000) (A:0<T.length) (G:TAt w p T):
  Calls Tryz.prog 66 #[.int .i64 17,.slice p T.length c] w (dn (bR 17 (tkT T) []) w):=by
 obtain⟨ak,ap,rfl,Z,U,H,I,Y⟩:=cF G (i:=0) A
 rw [Nat.zero_mul,Nat.add_zero] at U H I Y
 have J:Hid (∀B,w.grownBy B none->dn (bR 17 (tkT T) []) w (.returned (.agg #[.int .i64 4,.string ⟨#[]⟩,.string ⟨#[]⟩,.bool false,.slice none 0 0,.bool false,.slice none 0 0,.int .i64 ((tkT T 0).pos:Int)])) B):=zh (fun B O=>⟨O,_,rfl,iu (by decide),rfl⟩)
 obtain⟨m,E⟩:=zx T.length
 rw [E] at L A ⊢
 have z0:decide (0<m)=true:=zd A
 have yF:=zE ((0:Int)<(m:Int))
 unfold aD at H I
 generalize (⟨(tkT T 0).lead.toArray⟩:ByteArray)=le at *
 generalize (⟨(tkT T 0).text.toArray⟩:ByteArray)=te at *
 generalize (tkT T 0).kind=ao at *
 generalize (tkT T 0).pos=R at *
 clear G E
 go_enter Tryz.func66,Tryz.ntmps66
 go_wp2_with fail
 refine bodyPost_ret (v:=.agg #[.int .i64 4,.string ⟨#[]⟩,.string ⟨#[]⟩,.bool false,.slice none 0 0,.bool false,.slice none 0 0,.int .i64 (R:Int)]) (by simp [results,Tryz.results66,go_sem]) rfl (J _ gbx)
theorem Xx (T:List Tok) (p:Option Addr) (c:Nat) (w:World) (L:T.length<=150000) (A:0<T.length) (G:TAt w p T):
  Calls Tryz.prog 66 #[.int .i64 14,.slice p T.length c] w (dn (bR 14 (tkT T) []) w):=by
 obtain⟨ak,ap,rfl,bN,U,H,I,Y⟩:=cF G (i:=0) A
 rw [Nat.zero_mul,Nat.add_zero] at U H I Y
 have J:Hid (∀B,w.grownBy B none->dn (bR 14 (tkT T) []) w (.returned (.agg #[.int .i64 3,.string ⟨(tkT T 0).text.toArray⟩,.string ⟨#[]⟩,.bool false,.slice none 0 0,.bool false,.slice none 0 0,.int .i64 ((tkT T 0).pos:Int)])) B):=zh (fun B O=>⟨O,_,rfl,iu (by decide),rfl⟩)
 obtain⟨m,E⟩:=zx T.length
 rw [E] at L A ⊢
 have z0:decide (0<m)=true:=zd A
 have yF:=zE ((0:Int)<(m:Int))
 unfold aD at H I
 generalize (⟨(tkT T 0).lead.toArray⟩:ByteArray)=le at *
 generalize (⟨(tkT T 0).text.toArray⟩:ByteArray)=Z at *
 generalize (tkT T 0).kind=ao at *
 generalize (tkT T 0).pos=R at *
 clear G E
 go_enter Tryz.func66,Tryz.ntmps66
 go_wp2_with fail
 go_region
 all_goals
  go_wp2_with fail
  refine bodyPost_ret (v:=.agg #[.int .i64 3,.string Z,.string ⟨#[]⟩,.bool false,.slice none 0 0,.bool false,.slice none 0 0,.int .i64 (R:Int)]) (by simp [results,Tryz.results66,go_sem]) rfl (J _ gbx)
theorem Wj (T:List Tok) (p:Option Addr) (c:Nat) (w:World) (L:T.length<=150000) (A:0<T.length) (G:TAt w p T):
  Calls Tryz.prog 66 #[.int .i64 16,.slice p T.length c] w (dn (bR 16 (tkT T) []) w):=by
 obtain⟨ak,ap,rfl,bN,U,H,I,Y⟩:=cF G (i:=0) A
 rw [Nat.zero_mul,Nat.add_zero] at U H I Y
 have J:Hid (∀B,w.grownBy B none->dn (bR 16 (tkT T) []) w (.returned (.agg #[.int .i64 2,.string ⟨#[]⟩,.string ⟨#[]⟩,.bool false,.slice none 0 0,.bool (decide ((tkT T 0).text = [116,114,117,101])),.slice none 0 0,.int .i64 ((tkT T 0).pos:Int)])) B):=zh (fun B O=>⟨O,_,rfl,iu (by decide),rfl⟩)
 obtain⟨m,E⟩:=zx T.length
 rw [E] at L A ⊢
 have z0:decide (0<m)=true:=zd A
 have yF:=zE ((0:Int)<(m:Int))
 have e1:((⟨(tkT T 0).text.toArray⟩:ByteArray).toList == [116,114,117,101])=decide ((tkT T 0).text = [116,114,117,101]):=by
  rw [ByteArray.toList_eq]
  show((tkT T 0).text == [116,114,117,101])=_
  by_cases h:(tkT T 0).text = [116,114,117,101]
  ·rw [zd h];simpa using h
  ·rw [VW h];simpa using h
 generalize decide ((tkT T 0).text = [116,114,117,101])=Z at *
 unfold aD at H I
 generalize (⟨(tkT T 0).lead.toArray⟩:ByteArray)=le at *
 generalize (⟨(tkT T 0).text.toArray⟩:ByteArray)=te at *
 generalize (tkT T 0).kind=ao at *
 generalize (tkT T 0).pos=R at *
 clear G E
 go_enter Tryz.func66,Tryz.ntmps66
 go_wp2_with fail
 go_region
 all_goals
  go_wp2_with fail
  refine bodyPost_ret (v:=.agg #[.int .i64 2,.string ⟨#[]⟩,.string ⟨#[]⟩,.bool false,.slice none 0 0,.bool Z,.slice none 0 0,.int .i64 (R:Int)]) (by simp [results,Tryz.results66,go_sem]) rfl (J _ gbx)
open Go.RowKit
theorem X3 (T:List Tok) (p:Option Addr) (c:Nat) (w:World) (hT:T.length<=150000) (U:0<T.length) (gP:gF w) (Z:TAt w p T):
  Calls Tryz.prog 66 #[.int .i64 10,.slice p T.length c] w (dn (bR 10 (tkT T) []) w):=by
 obtain⟨g,aq,rfl,bN,t0,t1,t2,t3⟩:=cF Z (i:=0) U
 rw [Nat.zero_mul,Nat.add_zero] at t0 t1 t2 t3
 have HX:Hid (∀w',w.grownBy w' none->dn (bR 10 (tkT T) []) w (.returned (.agg #[.int .i64 (kE (tkT T 0).text:Nat),.string ⟨#[]⟩,.string ⟨#[]⟩,.bool false,.slice none 0 0,.bool false,.slice none 0 0,.int .i64 ((tkT T 0).pos:Int)])) w'):=zh (fun w' hg=>⟨hg,_,rfl,iu (by unfold kE;split<;>omega),rfl⟩)
 have HC:Hid (∀W,gF W->Calls Tryz.prog 96 #[.string ⟨(tkT T 0).text.toArray⟩] W (bp (.int .i64 (kE (tkT T 0).text:Nat)) W)):=zh (fun W h=>by have:=Ob ⟨(tkT T 0).text.toArray⟩ W h;exact this)
 have fc:=zh gP
 generalize kE (tkT T 0).text=H at *
 have ao:=zh Z
 obtain⟨ak,Y⟩:=zx T.length
 have HM:=zh Y
 have BT:=U
 rw [Y] at BT ⊢
 have z0:decide (0<ak)=true:=zd BT
 have yF:=zE ((0:Int)<(ak:Int))
 unfold aD at t1 t2
 generalize (⟨(tkT T 0).lead.toArray⟩:ByteArray)=le at *
 generalize (⟨(tkT T 0).text.toArray⟩:ByteArray)=te at *
 generalize (tkT T 0).kind=m at *
 generalize (tkT T 0).pos=J at *
 clear Z Y hT U gP
 go_enter Tryz.func66,Tryz.ntmps66
 go_wp2_with fail
 obtain⟨W,b0,b1,A,hW,R,e1,e2,B,I,E,dp,lu,oR⟩:=three w (.cells #[.int .i64 0,.string ⟨#[]⟩,.string ⟨#[]⟩,.bool false,.slice none 0 0,.bool false,.slice none 0 0,.int .i64 0] 60) (.cells #[.int .i64 (m:Int),.string le,.string te,.int .i64 (J:Int)] 91) (.cells #[.int .i64 0,.string ⟨#[]⟩,.string ⟨#[]⟩,.bool false,.slice none 0 0,.bool false,.slice none 0 0,.int .i64 (J:Int)] 60)
 have O:=zh B;have bS:=zh I;have bP:=zh E;have bm:=zh dp
 have gj:=zh R
 clear B I E dp
 try rw [<-hW]
 try rw [e2]
 try rw [e1]
 try rw [R]
 clear R e1 e2 hW
 refine(HC _ (fc.kept bm)).mono ?_
 rintro ap L ⟨rfl,G⟩
 have B:=bx G O.out;have I:=bx G bS.out;have E:=bx G bP
 have O:=zh B;have bP:=zh E;have fu:=zh (aa bm G)
 obtain⟨a0,a1,a2,a3,a4,a5,a6,a7,a8⟩:=bJ B
 obtain⟨c0,c1,c2,c3,c4,c5,c6,c7,c8⟩:=bJ E
 clear G B I E
 have lr:Hid (Fr2 (fun m=>m=b0\/m=A) L (L.setCell ⟨A,0,none⟩ (.int .i64 (H:Int)))):=zh ((Fr2.refl (fun m=>m=b0\/m=A) L).setCell (g:=A) (j:=0) (.inr rfl) (.int .i64 (H:Int)))
 have mR:=zh (((Fr2.refl (fun m=>m=A) L).setCell (g:=A) (j:=0) rfl (.int .i64 (H:Int))).keep O (by omega))
 go_wp2_with fail
 obtain⟨hp,hf⟩:=mY mR (.int .i64 (H:Int)) (.string ⟨#[]⟩) (.string ⟨#[]⟩) (.bool false) (.slice none 0 0) (.bool false) (.slice none 0 0) (.int .i64 (J:Int))
 obtain⟨k0,k1,k2,k3,k4,k5,k6,k7,-⟩:=bJ hp
 have B6:=zh (Fr2.after fu (lr.trans (hf.mono (fun _ h=>.inl h))) (fun j hj=>by have:=gj.out;rcases hj with h | h<;>omega))
 refine bodyPost_ret (v:=.agg #[.int .i64 (H:Int),.string ⟨#[]⟩,.string ⟨#[]⟩,.bool false,.slice none 0 0,.bool false,.slice none 0 0,.int .i64 (J:Int)]) (by simp [results,Tryz.results66,go_sem,k0,k1,k2,k3,k4,k5,k6,k7]) rfl (HX _ B6)
theorem Yh (T:List Tok) (p:Option Addr) (c:Nat) (w:World) (hT:T.length<=150000) (U:0<T.length) (Z:TAt w p T):
  Calls Tryz.prog 66 #[.int .i64 11,.slice p T.length c] w (dn (bR 11 (tkT T) []) w):=by
 obtain⟨g,aq,rfl,bN,t0,t1,t2,t3⟩:=cF Z (i:=0) U
 rw [Nat.zero_mul,Nat.add_zero] at t0 t1 t2 t3
 have HX:Hid (∀w',w.grownBy w' none->dn (bR 11 (tkT T) []) w (.returned (.agg #[.int .i64 (unE (tkT T 0).text:Nat),.string ⟨#[]⟩,.string ⟨#[]⟩,.bool false,.slice none 0 0,.bool false,.slice none 0 0,.int .i64 ((tkT T 0).pos:Int)])) w'):=zh (fun w' hg=>⟨hg,_,rfl,iu (by unfold unE;split<;>omega),rfl⟩)
 have HC:Hid (∀W,Calls Tryz.prog 97 #[.string ⟨(tkT T 0).text.toArray⟩] W (bp (.int .i64 (unE (tkT T 0).text:Nat)) W)):=zh (fun W=>by have:=Rt ⟨(tkT T 0).text.toArray⟩ W;exact this)
 generalize unE (tkT T 0).text=H at *
 have ao:=zh Z
 obtain⟨ak,Y⟩:=zx T.length
 have HM:=zh Y
 have BT:=U
 rw [Y] at BT ⊢
 have z0:decide (0<ak)=true:=zd BT
 have yF:=zE ((0:Int)<(ak:Int))
 unfold aD at t1 t2
 generalize (⟨(tkT T 0).lead.toArray⟩:ByteArray)=le at *
 generalize (⟨(tkT T 0).text.toArray⟩:ByteArray)=te at *
 generalize (tkT T 0).kind=m at *
 generalize (tkT T 0).pos=J at *
 clear Z Y hT U
 go_enter Tryz.func66,Tryz.ntmps66
 go_wp2_with fail
 obtain⟨W,b0,b1,A,hW,R,e1,e2,B,I,E,dp,lu,oR⟩:=three w (.cells #[.int .i64 0,.string ⟨#[]⟩,.string ⟨#[]⟩,.bool false,.slice none 0 0,.bool false,.slice none 0 0,.int .i64 0] 60) (.cells #[.int .i64 (m:Int),.string le,.string te,.int .i64 (J:Int)] 91) (.cells #[.int .i64 0,.string ⟨#[]⟩,.string ⟨#[]⟩,.bool false,.slice none 0 0,.bool false,.slice none 0 0,.int .i64 (J:Int)] 60)
 have O:=zh B;have bS:=zh I;have bP:=zh E;have bm:=zh dp
 have gj:=zh R
 clear B I E dp
 try rw [<-hW]
 try rw [e2]
 try rw [e1]
 try rw [R]
 clear R e1 e2 hW
 refine(HC _).mono ?_
 rintro ap L ⟨rfl,G⟩
 have B:=bx G O.out;have I:=bx G bS.out;have E:=bx G bP
 have O:=zh B;have bP:=zh E;have fu:=zh (aa bm G)
 obtain⟨a0,a1,a2,a3,a4,a5,a6,a7,a8⟩:=bJ B
 obtain⟨c0,c1,c2,c3,c4,c5,c6,c7,c8⟩:=bJ E
 clear G B I E
 have lr:Hid (Fr2 (fun m=>m=b0\/m=A) L (L.setCell ⟨A,0,none⟩ (.int .i64 (H:Int)))):=zh ((Fr2.refl (fun m=>m=b0\/m=A) L).setCell (g:=A) (j:=0) (.inr rfl) (.int .i64 (H:Int)))
 have mR:=zh (((Fr2.refl (fun m=>m=A) L).setCell (g:=A) (j:=0) rfl (.int .i64 (H:Int))).keep O (by omega))
 go_wp2_with fail
 obtain⟨hp,hf⟩:=mY mR (.int .i64 (H:Int)) (.string ⟨#[]⟩) (.string ⟨#[]⟩) (.bool false) (.slice none 0 0) (.bool false) (.slice none 0 0) (.int .i64 (J:Int))
 obtain⟨k0,k1,k2,k3,k4,k5,k6,k7,-⟩:=bJ hp
 have B6:=zh (Fr2.after fu (lr.trans (hf.mono (fun _ h=>.inl h))) (fun j hj=>by have:=gj.out;rcases hj with h | h<;>omega))
 refine bodyPost_ret (v:=.agg #[.int .i64 (H:Int),.string ⟨#[]⟩,.string ⟨#[]⟩,.bool false,.slice none 0 0,.bool false,.slice none 0 0,.int .i64 (J:Int)]) (by simp [results,Tryz.results66,go_sem,k0,k1,k2,k3,k4,k5,k6,k7]) rfl (HX _ B6)
theorem On (T:List Tok) (p:Option Addr) (c:Nat) (w:World) (hT:T.length<=150000) (h0:0<T.length) (h1:1<T.length) (h2:(tkT T 1).text = [46]->2<T.length) (ht:TAt w p T):
  Calls Tryz.prog 66 #[.int .i64 13,.slice p T.length c] w (dn (bR 13 (tkT T) []) w):=by
 obtain⟨g,aq,rfl,bN,t0,t1,t2,t3⟩:=cF ht (i:=0) h0
 rw [Nat.zero_mul,Nat.add_zero] at t0 t1 t2 t3
 have HX:Hid (∀w',w.grownBy w' none->dn (bR 13 (tkT T) []) w (.returned (.agg #[.int .i64 24,aD (if (tkT T 1).text = [46] then (tkT T 2).text else (tkT T 0).text),aD (if (tkT T 1).text = [46] then (tkT T 0).text else []),.bool false,.slice none 0 0,.bool false,.slice none 0 0,.int .i64 ((tkT T 0).pos:Int)])) w'):=zh (fun w' hg=>⟨hg,_,rfl,(by
  have ak:bR 13 (tkT T) []=.mk 24 (if (tkT T 1).text = [46] then (tkT T 2).text else (tkT T 0).text) (if (tkT T 1).text = [46] then (tkT T 0).text else []) [] false [] (tkT T 0).pos:=by
   show(if (tkT T 1).text = [46] then _ else _)=_
   split<;>rfl
  rw [ak]
  exact iu (by decide)),rfl⟩)
 have U:=zh (fun W h=>Oi T (some ⟨g,aq,none⟩) c W hT h1 h2 h)
 unfold aD at HX U
 generalize (⟨(if (tkT T 1).text = [46] then (tkT T 2).text else (tkT T 0).text).toArray⟩:ByteArray)=I at *
 generalize (⟨(if (tkT T 1).text = [46] then (tkT T 0).text else []).toArray⟩:ByteArray)=H at *
 have ap:=zh ht
 obtain⟨ao,L⟩:=zx T.length
 have HM:=zh L
 rw [L] at U
 have BT:=h0
 rw [L] at BT ⊢
 have z0:decide (0<ao)=true:=zd BT
 have yF:=zE ((0:Int)<(ao:Int))
 unfold aD at t1 t2
 generalize (⟨(tkT T 0).lead.toArray⟩:ByteArray)=le at *
 generalize (⟨(tkT T 0).text.toArray⟩:ByteArray)=te at *
 generalize (tkT T 0).kind=A at *
 generalize (tkT T 0).pos=O at *
 clear ht L hT h0 h1 h2
 go_enter Tryz.func66,Tryz.ntmps66
 go_wp2_with fail
 obtain⟨W,b0,b1,m,hW,Z,e1,e2,B,J,E,dp,lu,oR⟩:=three w (.cells #[.int .i64 0,.string ⟨#[]⟩,.string ⟨#[]⟩,.bool false,.slice none 0 0,.bool false,.slice none 0 0,.int .i64 0] 60) (.cells #[.int .i64 (A:Int),.string le,.string te,.int .i64 (O:Int)] 91) (.cells #[.int .i64 24,.string ⟨#[]⟩,.string ⟨#[]⟩,.bool false,.slice none 0 0,.bool false,.slice none 0 0,.int .i64 (O:Int)] 60)
 have Y:=zh B;have bS:=zh J;have bP:=zh E;have bm:=zh dp
 have gj:=zh Z
 clear B J E dp
 try rw [<-hW]
 try rw [e2]
 try rw [e1]
 try rw [Z]
 clear Z e1 e2 hW
 refine(U _ (ap.kept bm)).mono ?_
 rintro ak R ⟨rfl,G⟩
 have B:=bx G Y.out;have J:=bx G bS.out;have E:=bx G bP
 have Y:=zh B;have bP:=zh E;have fu:=zh (aa bm G)
 obtain⟨a0,a1,a2,a3,a4,a5,a6,a7,a8⟩:=bJ B
 obtain⟨c0,c1,c2,c3,c4,c5,c6,c7,c8⟩:=bJ E
 clear G B J E
 have lr:Hid (Fr2 (fun A=>A=b0\/A=m) R ((R.setCell ⟨m,2,none⟩ (.string H)).setCell ⟨m,1,none⟩ (.string I))):=zh (((Fr2.refl (fun A=>A=b0\/A=m) R).setCell (g:=m) (j:=2) (.inr rfl) (.string H)).setCell (g:=m) (j:=1) (.inr rfl) (.string I))
 have mR:=zh ((((Fr2.refl (fun A=>A=m) R).setCell (g:=m) (j:=2) rfl (.string H)).setCell (g:=m) (j:=1) rfl (.string I)).keep Y (by omega))
 go_wp2_with fail
 obtain⟨hp,hf⟩:=mY mR (.int .i64 24) (.string I) (.string H) (.bool false) (.slice none 0 0) (.bool false) (.slice none 0 0) (.int .i64 (O:Int))
 obtain⟨k0,k1,k2,k3,k4,k5,k6,k7,-⟩:=bJ hp
 have B6:=zh (Fr2.after fu (lr.trans (hf.mono (fun _ h=>.inl h))) (fun j hj=>by have:=gj.out;rcases hj with h | h<;>omega))
 refine bodyPost_ret (v:=.agg #[.int .i64 24,.string I,.string H,.bool false,.slice none 0 0,.bool false,.slice none 0 0,.int .i64 (O:Int)]) (by simp [results,Tryz.results66,go_sem,k0,k1,k2,k3,k4,k5,k6,k7]) rfl (HX _ B6)
theorem Xk (T:List Tok) (p:Option Addr) (c:Nat) (w:World) (hT:T.length<=150000) (H:0<T.length) (nH:Ds (tkT T 0).text) (ht:TAt w p T):
  Calls Tryz.prog 66 #[.int .i64 15,.slice p T.length c] w (dn (bR 15 (tkT T) []) w):=by
 obtain⟨g,av,rfl,bN,t0,t1,t2,t3⟩:=cF ht (i:=0) H
 rw [Nat.zero_mul,Nat.add_zero] at t0 t1 t2 t3
 have HX:Hid (∀w' A Y U m,w.grownBy w' none->Zd.IsInt w' (.agg #[.bool A,.slice Y U m]) (Zd.parseV (tkT T 0).text)->(0<U->∃ak,Y=some ak/\w.heap.size<=ak.block)->dn (bR 15 (tkT T) []) w (.returned (.agg #[.int .i64 1,.string ⟨#[]⟩,.string ⟨#[]⟩,.bool A,.slice Y U m,.bool false,.slice none 0 0,.int .i64 ((tkT T 0).pos:Int)])) w'):=zh (fun w' A Y U m hg hi hf=>⟨hg,_,rfl,(by
  show EAt _ _ (.mk 1 [] [] (tkT T 0).text false [] (tkT T 0).pos) _
  simp only [EAt]
  exact⟨A,Y,U,m,none,0,[],rfl,by unfold ff;rw [if_pos rfl];exact⟨hi,(yV nH).1,hf⟩,GAt.nil,by simp [LsE],fun h=>absurd rfl h⟩),rfl⟩)
 have HC:Hid (∀W,Calls Tryz.prog 99 #[.string ⟨(tkT T 0).text.toArray⟩] W (Zd.ParsePost (tkT T 0).text W)):=zh (fun W=>by have:=Zd.Parse_c ⟨(tkT T 0).text.toArray⟩ W;exact this)
 have PX:Hid (Zd.parseE (tkT T 0).text=0):=zh (yV nH).1
 have aq:=zh ht
 obtain⟨ao,hm⟩:=zx T.length
 have HM:=zh hm
 have BT:=H
 rw [hm] at BT ⊢
 have z0:decide (0<ao)=true:=zd BT
 have yF:=zE ((0:Int)<(ao:Int))
 unfold aD at t1 t2
 generalize (⟨(tkT T 0).lead.toArray⟩:ByteArray)=le at *
 generalize (⟨(tkT T 0).text.toArray⟩:ByteArray)=te at *
 generalize (tkT T 0).kind=E at *
 generalize (tkT T 0).pos=ps at *
 clear ht hm hT H nH
 go_enter Tryz.func66,Tryz.ntmps66
 go_wp2_with fail
 obtain⟨W,b0,b1,B,hW,e0,e1,e2,L,Z,G,dp,lu,oR⟩:=three w (.cells #[.int .i64 0,.string ⟨#[]⟩,.string ⟨#[]⟩,.bool false,.slice none 0 0,.bool false,.slice none 0 0,.int .i64 0] 60) (.cells #[.int .i64 (E:Int),.string le,.string te,.int .i64 (ps:Int)] 91) (.cells #[.int .i64 1,.string ⟨#[]⟩,.string ⟨#[]⟩,.bool false,.slice none 0 0,.bool false,.slice none 0 0,.int .i64 (ps:Int)] 60)
 have bB:=zh L;have bS:=zh Z;have bP:=zh G;have bm:=zh dp
 have gj:=zh e0
 have uh:Hid (B<W.heap.size):=zh (hlt G)
 clear L Z G dp
 try rw [<-hW]
 try rw [e2]
 try rw [e1]
 try rw [e0]
 clear e0 e1 e2 hW
 refine(HC _).mono ?_
 rintro au w1 ⟨ax,rfl,hi,R,nW⟩
 rw [PX.out]
 obtain⟨A,J,I,m,rfl,ap⟩:=Zd.int_parts hi
 have KH:=zh (nW A J I m rfl)
 clear hi nW
 have L:=bx R bB.out;have Z:=bx R bS.out;have G:=bx R bP
 have bB:=zh L;have bP:=zh G;have fu:=zh (aa bm R)
 obtain⟨a0,a1,a2,a3,a4,a5,a6,a7,a8⟩:=bJ L
 obtain⟨c0,c1,c2,c3,c4,c5,c6,c7,c8⟩:=bJ G
 clear R L Z G
 have lr:Hid (Fr2 (fun E=>E=b0\/E=B) w1 ((w1.setCell ⟨B,3,none⟩ (.bool A)).setCell ⟨B,4,none⟩ (.slice J I m))):=zh (((Fr2.refl (fun E=>E=b0\/E=B) w1).setCell (g:=B) (j:=3) (.inr rfl) (.bool A)).setCell (g:=B) (j:=4) (.inr rfl) (.slice J I m))
 have mR:=zh ((((Fr2.refl (fun E=>E=B) w1).setCell (g:=B) (j:=3) rfl (.bool A)).setCell (g:=B) (j:=4) rfl (.slice J I m)).keep bB (by omega))
 go_wp2_with fail
 obtain⟨hp,hf⟩:=mY mR (.int .i64 1) (.string ⟨#[]⟩) (.string ⟨#[]⟩) (.bool A) (.slice J I m) (.bool false) (.slice none 0 0) (.int .i64 (ps:Int))
 obtain⟨k0,k1,k2,k3,k4,k5,k6,k7,-⟩:=bJ hp
 have B6:=zh (Fr2.after fu (lr.trans (hf.mono (fun _ h=>.inl h))) (fun j hj=>by have:=gj.out;rcases hj with h | h<;>omega))
 refine bodyPost_ret (v:=.agg #[.int .i64 1,.string ⟨#[]⟩,.string ⟨#[]⟩,.bool A,.slice J I m,.bool false,.slice none 0 0,.int .i64 (ps:Int)]) (by simp [results,Tryz.results66,go_sem,k0,k1,k2,k3,k4,k5,k6,k7]) rfl (HX _ A J I m B6 (Cl ap.out (lr.trans (hf.mono (fun _ h=>.inl h))) (fun H ak ha hj=>by obtain⟨a',O,K4⟩:=KH H;rw [ha] at O;injection O with O;subst O;have:=bm.size;have:=uh.out;rcases hj with h | h<;>omega)) (fun H=>by obtain⟨a',O,K4⟩:=KH H;exact⟨a',O,Nat.le_trans bm.size K4⟩))
theorem aba (T:List Tok) (p:Option Addr) (c:Nat) (w:World) (hT:T.length<=150000) (U:0<T.length) (Y:1<T.length) (J:TAt w p T):
  Calls Tryz.prog 66 #[.int .i64 7,.slice p T.length c] w (dn (bR 7 (tkT T) []) w):=by
 obtain⟨g,au,rfl,bN,t0,Z,t2,t3⟩:=cF J (i:=0) U
 rw [Nat.zero_mul,Nat.add_zero] at t0 Z t2 t3
 obtain⟨g1,dR,G,-,-,-,u2,-⟩:=cF J (i:=1) Y
 injection G with G;injection G with G cI;subst G cI
 rw [Nat.one_mul] at u2
 unfold aD at u2
 have ao:=zh u2
 clear u2
 have HX:Hid (∀w',w.grownBy w' none->dn (bR 7 (tkT T) []) w (.returned (.agg #[.int .i64 22,.string ⟨(tkT T 1).text.toArray⟩,.string ⟨#[]⟩,.bool false,.slice none 0 0,.bool false,.slice none 0 0,.int .i64 ((tkT T 0).pos:Int)])) w'):=zh (fun w' hg=>⟨hg,_,rfl,iu (by decide),rfl⟩)
 generalize (⟨(tkT T 1).text.toArray⟩:ByteArray)=B at *
 have ap:=zh J
 obtain⟨m,I⟩:=zx T.length
 have HM:=zh I
 have BT:=U
 rw [I] at BT ⊢
 have z0:decide (0<m)=true:=zd BT
 have yF:=zE ((0:Int)<(m:Int))
 have ak:=Y
 rw [I] at ak
 have z1:decide (1<m)=true:=zd ak
 have Vs:=zE ((1:Int)<(m:Int))
 have Hz:Hid (g<w.heap.size):=zh bN
 unfold aD at Z t2
 generalize (⟨(tkT T 0).lead.toArray⟩:ByteArray)=le at *
 generalize (⟨(tkT T 0).text.toArray⟩:ByteArray)=te at *
 generalize (tkT T 0).kind=E at *
 generalize (tkT T 0).pos=H at *
 clear J I hT U Y
 go_enter Tryz.func66,Tryz.ntmps66
 go_wp2_with fail
 obtain⟨W,L,b1,A,hW,O,e1,e2,cS,dq,R,dp,lu,oR⟩:=three w (.cells #[.int .i64 0,.string ⟨#[]⟩,.string ⟨#[]⟩,.bool false,.slice none 0 0,.bool false,.slice none 0 0,.int .i64 0] 60) (.cells #[.int .i64 (E:Int),.string le,.string te,.int .i64 (H:Int)] 91) (.cells #[.int .i64 0,.string ⟨#[]⟩,.string ⟨#[]⟩,.bool false,.slice none 0 0,.bool false,.slice none 0 0,.int .i64 (H:Int)] 60)
 have bB:=zh cS;have bS:=zh dq;have bP:=zh R;have bm:=zh dp
 have gj:=zh O
 clear cS dq dp
 try rw [<-hW]
 try rw [e2]
 try rw [e1]
 try rw [O]
 have rR:=bm.cell ao (by simp)
 have aq:g<L:=by omega
 clear O e1 e2 hW bN t0 Z t2 t3
 obtain⟨c0,c1,c2,c3,c4,c5,c6,c7,c8⟩:=bJ R
 go_region
 all_goals
  have lr:Hid (Fr2 (fun E=>E=L\/E=A) W ((W.setCell ⟨A,0,none⟩ (.int .i64 22)).setCell ⟨A,1,none⟩ (.string B)).drew):=zh (CP (((Fr2.refl _ _).setCell (.inr rfl) _).setCell (.inr rfl) _))
  have IG:=ab (i:=1) (u:=.string B) (ab (i:=0) (u:=.int .i64 22) bP)
  have Ek:=((((Fr2.refl (fun E=>E=A) W).setCell (g:=A) (j:=0) rfl (.int .i64 22)).setCell (g:=A) (j:=1) rfl (.string B)).keep bB (by omega))
  have nE:Hid (((W.setCell ⟨A,0,none⟩ (.int .i64 22)).setCell ⟨A,1,none⟩ (.string B)).drew.heap[A]? = some (.cells #[.int .i64 22,.string B,.string ⟨#[]⟩,.bool false,.slice none 0 0,.bool false,.slice none 0 0,.int .i64 (H:Int)] 60 (0,0))):=zh IG
  have mR:Hid (((W.setCell ⟨A,0,none⟩ (.int .i64 22)).setCell ⟨A,1,none⟩ (.string B)).drew.heap[L]? = some (.cells #[.int .i64 0,.string ⟨#[]⟩,.string ⟨#[]⟩,.bool false,.slice none 0 0,.bool false,.slice none 0 0,.int .i64 0] 60 (0,0))):=zh Ek
  clear IG Ek rR c0 c1 c2 c3 c4 c5 c6 c7 c8 R
  generalize ((W.setCell ⟨A,0,none⟩ (.int .i64 22)).setCell ⟨A,1,none⟩ (.string B)).drew=W2 at *
  obtain⟨c0,c1,c2,c3,c4,c5,c6,c7,c8⟩:=bJ nE
  obtain⟨a0,a1,a2,a3,a4,a5,a6,a7,a8⟩:=bJ mR
  go_wp2_with fail
  obtain⟨hp,hf⟩:=mY mR (.int .i64 22) (.string B) (.string ⟨#[]⟩) (.bool false) (.slice none 0 0) (.bool false) (.slice none 0 0) (.int .i64 (H:Int))
  obtain⟨k0,k1,k2,k3,k4,k5,k6,k7,-⟩:=bJ hp
  have B6:=zh (Fr2.after bm (lr.trans (hf.mono (fun _ h=>.inl h))) (fun j hj=>by have:=gj.out;rcases hj with h | h<;>omega))
  refine bodyPost_ret (v:=.agg #[.int .i64 22,.string B,.string ⟨#[]⟩,.bool false,.slice none 0 0,.bool false,.slice none 0 0,.int .i64 (H:Int)]) (by simp [results,Tryz.results66,go_sem,k0,k1,k2,k3,k4,k5,k6,k7]) rfl (HX _ B6)
open Go.RowKit List Nat Go.World
def Nf:Ex->List Ex->Ex
 | .mk op nm md nu ys _ ps,ks=>.mk op nm md nu ys ks ps
theorem vT (k:Nat) (o:Nat->Tok) (ks:List Ex):bR k o ks=Nf (bR k o []) ks:=by
 unfold bR
 repeat' (split)
 all_goals (first | rfl | (split<;>rfl))
theorem FZ (k:Nat) (o:Nat->Tok):∃G B A E I H,bR k o []=.mk G B A E I [] H:=by
 cases h:bR k o [] with
 | mk G B A E I J H=>
   have m:=vT k o []
   rw [h] at m
   simp only [Nf,Ex.mk.injEq,true_and,and_true] at m
   exact⟨G,B,A,E,I,H,by rw [m]⟩
theorem ff.bound {F:Nat->Prop} {w:World} {I:Nat} {H:List UInt8} {s:Bool} {p:Option Addr} {n c:Nat} (h:ff F w I H s p n c):ff (fun G=>F G/\G<w.heap.size) w I H s p n c:=by
 unfold ff at h ⊢
 split
 ·rename_i A
  rw [if_pos A] at h
  refine⟨h.1,h.2.1,fun L=>?_⟩
  obtain⟨J,B,R⟩:=h.2.2 L
  refine⟨J,B,R,?_⟩
  obtain⟨s',au,Y,E,⟨p',n',Z,ak,rfl,h1,h2,O,h4⟩,aq⟩:=h.1
  simp only [Value.agg.injEq,Array.mk.injEq,List.cons.injEq,Value.bool.injEq,Value.slice.injEq,and_true] at E
  obtain⟨rfl,rfl,rfl,rfl⟩:=E
  obtain⟨ao,ap,m,U,-⟩:=Or.resolve_left O (by omega)
  rw [B] at m;injection m with m;subst m;exact U
 ·rename_i A
  rw [if_neg A] at h;exact h
mutual
theorem EAt.bound {F:Nat->Prop} {w:World}:∀ {x:Ex} {q:List Value},EAt F w x q->EAt (fun I=>F I/\I<w.heap.size) w x q
 | .mk op nm md nu ys ks ps,q,h=>by
   simp only [EAt] at h ⊢
   obtain⟨ao,pw,nw,L,pk,J,ak,R,U,B,E,Y⟩:=h
   refine⟨ao,pw,nw,L,pk,J,ak,R,U.bound,B,LsE.bound E,fun A=>?_⟩
   obtain⟨m,G,Z⟩:=Y A
   have H:=jk E
   exact⟨m,G,Z,GAt.blk B (fun O=>by rw [O] at H;exact A (fb H.symm)) m G⟩
theorem LsE.bound {F:Nat->Prop} {w:World}:∀ {l:List Ex} {r:List (List Value)},LsE F w l r->LsE (fun m=>F m/\m<w.heap.size) w l r
 | [],r,h=>by simp only [LsE] at h ⊢;exact h
 | x::l,r,h=>by
   simp only [LsE] at h ⊢
   obtain⟨G,H,A,B,E⟩:=h
   exact⟨G,H,A,EAt.bound B,LsE.bound E⟩
end
theorem EAt.parts {F:Nat->Prop} {w:World} {E L:Nat} {I H J:List UInt8} {O:Bool} {q:List Value} (h:EAt F w (.mk E I H J O [] L) q) (G:q[6]? = some (.slice none 0 0)):∃s B A m,q = [.int .i64 (E:Int),.string ⟨I.toArray⟩,.string ⟨H.toArray⟩,.bool s,.slice B A m,.bool O,.slice none 0 0,.int .i64 (L:Int)]/\ff F w E J s B A m:=by
 simp only [EAt] at h
 obtain⟨s,B,A,m,Y,U,Z,rfl,R,-⟩:=h
 simp at G
 obtain⟨rfl,rfl⟩:=G
 exact⟨s,B,A,m,rfl,R⟩
theorem EAt.one {F:Nat->Prop} {w:World} {x:Ex} {q:List Value} (h:EAt F w x q):q.length=8/\∀u∈q,u.oneCell'=true:=by
 cases x with
 | mk L H G I ys E R=>
   simp only [EAt] at h
   obtain⟨Z,U,J,B,O,A,Y,rfl,-⟩:=h
   exact⟨rfl,fun u m=>by simp at m;rcases m with rfl | rfl | rfl | rfl | rfl | rfl | rfl | rfl<;>rfl⟩
theorem nN (T:List Tok):∀a b:List Tr,bQ T (a++b)=bQ T a++bQ T b
 | [],b=>by simp [bQ]
 | t::a,b=>by
   simp only [cons_append,bQ,nN T a b]
   split<;>simp
theorem GI (T:List Tok) {l:List Tr} {j:Nat} {t:Tr} (h:l[j]? = some t) (m:isN t=true):bQ T (l.take (j+1))=bQ T (l.take j)++[axT T t]:=by
 rw [gR h,nN];simp [bQ,m]
theorem Gv (T:List Tok) {l:List Tr} {j i:Nat} (h:l[j]? = some (.lf i)):bQ T (l.take (j+1))=bQ T (l.take j):=by
 rw [gR h,nN];simp [bQ,isN]
theorem vz (T:List Tok):∀l:List Tr,(bQ T l).length<=l.length
 | []=>by simp [bQ]
 | t::l=>by
   have:=vz T l
   simp only [bQ,hJ]
   split
   ·simp only [hJ];omega
   ·omega
theorem uS {T:List Tok}:∀ {l:List Tr} {j:Nat} {t:Tr},WEs T l->l[j]? = some t->WE T t
 | [],j,t,_,h=>by simp at h
 | u::l,j,t,hk,h=>by
   simp only [WEs] at hk
   match j,h with
   | 0,h=>simp at h;subst h;exact hk.1
   | j+1,h=>exact uS hk.2 (by simpa using h)
theorem dy:∀ {l:List Tr} {j:Nat} {t:Tr},l[j]? = some t->∀i∈lvT t,i∈cg l
 | [],j,t,h=>by simp at h
 | u::l,j,t,h=>fun i m=>by
   simp only [cg,mem_append]
   match j,h with
   | 0,h=>simp at h;subst h;exact .inl m
   | j+1,h=>exact .inr (dy (l:=l) (j:=j) (by simpa using h) i m)
theorem eU:∀ {l:List Tr} {j:Nat} {t:Tr},l[j]? = some t->szR t<=bK l
 | [],j,t,h=>by simp at h
 | u::l,j,t,h=>by
   simp only [bK]
   match j,h with
   | 0,h=>simp at h;subst h;omega
   | j+1,h=>have:=eU (l:=l) (j:=j) (t:=t) (by simpa using h);omega
theorem fw:∀l:List Tr,l.length<=bK l
 | []=>zero_le _
 | u::l=>by have:=fw l;have:=iR u;simp only [bK,hJ];omega
theorem LM {T:List Tok} {k:Nat} {l:List Tr} (hs:ShE T k l) (Y:k≠12) (p:Option Addr) (c:Nat) (w:World) (hl:l.length<=150000) (B:TAt w p ((ba l).map (tkT T))) (R:gF w):
  Calls Tryz.prog 66 #[.int .i64 (k:Int),.slice p (ba l).length c] w (dn (bR k (fun E=>tkT T ((ba l).getD E T.length)) []) w):=by
 have Z:(fun E=>tkT T ((ba l).getD E T.length))=tkT ((ba l).map (tkT T)):=by
  funext E
  unfold tkT
  rw [getElem?_map,getD_eq_getElem?_getD]
  cases h:(ba l)[E]? with
  | none=>simp
  | some A=>rfl
 have L:((ba l).map (tkT T)).length=(ba l).length:=length_map _
 have G:((ba l).map (tkT T)).length<=150000:=by have:=qO l;omega
 rw [Z,<-L]
 cases hs with
 | let_ A E k' ak H J m I=>
   cases H with
   | lf _=>simp [isN] at m
   | nd _ _=>cases J with
     | lf _=>simp [isN] at I
     | nd _ _=>exact aba _ p c w G (by simp [ba]) (by simp [ba]) B
 | if_ A E k' H J ao m I U=>exact abO _ p c w G (by simp [ba]) B
 | assert_ A E H J m I=>exact aa0 _ p c w G (by simp [ba]) B
 | bin A H J m I U=>
   cases H with
   | lf _=>simp [isN] at m
   | nd _ _=>exact X3 _ p c w G (by simp [ba]) R B
 | una A H m I=>exact Yh _ p c w G (by simp [ba]) B
 | grp A E H m=>exact absurd rfl Y
 | call A E l' m=>exact On _ p c w G (by simp [ba]) (by simp [ba]) (fun O=>absurd (by simpa [ba,tkT] using O) m) B
 | callm A E ak l' m=>exact On _ p c w G (by simp [ba]) (by simp [ba]) (fun _=>by simp [ba]) B
 | nam A=>exact Xx _ p c w G (by simp [ba]) B
 | num A m=>exact Xk _ p c w G (by simp [ba]) (by simpa [ba,tkT] using m) B
 | tru A=>exact Wj _ p c w G (by simp [ba]) B
 | res A=>exact XG _ p c w G (by simp [ba]) B
theorem EAt.fill {F:Nat->Prop} {w:World} {E R:Nat} {L J O:List UInt8} {U s:Bool} {G m:Option Addr} {B A I:Nat} {ks:List Ex} {H:List (List Value)} (h:ff F w E O s G B A) (hr:GAt 8 w m H) (Z:LsE F w ks H) (Y:ks≠[]->∃a,m=some a/\F a.block):EAt F w (.mk E L J O U ks R) [.int .i64 (E:Int),.string ⟨L.toArray⟩,.string ⟨J.toArray⟩,.bool s,.slice G B A,.bool U,.slice m ks.length I,.int .i64 (R:Int)]:=by
 simp only [EAt]
 exact⟨s,G,B,A,m,I,H,rfl,h,hr,Z,Y⟩
theorem Mu:(Tryz.prog.info? 60).map (fun m=>(m.zero,m.size,m.bytes))=some (some (.agg #[.int .i64 0,.string ⟨#[]⟩,.string ⟨#[]⟩,.bool false,.slice none 0 0,.bool false,.slice none 0 0,.int .i64 0]),8,112):=by kernel_rfl
theorem two (w:World) (A B:Obj):∃(W:World) (b0 m:Nat),W=(w.alloc A).alloc B/\w.heap.size=b0/\w.heap.size+1=m/\W.heap[b0]? = some A/\W.heap[m]? = some B/\w.grownBy W none/\b0<m:=by
 have G:=YK w A
 have E:=YK (w.alloc A) B
 have H:(w.alloc A).heap.size=w.heap.size+1:=by simp
 rw [H] at E
 exact⟨_,_,_,rfl,rfl,rfl,bx (qn _ _ none) G,E,af (af (ad _ _) _) _,by omega⟩
def sM (w:World) (E I Y:Nat) (R O U:List UInt8) (ys:Bool) (Z:Value) (A:World):Prop:=
 ∃(m:Nat) (L:Bool) (J:Option Addr) (H G:Nat),Z=.pointer (some ⟨m,0,none⟩)/\A.heap[m]? = some (.cells #[.int .i64 (I:Int),.string ⟨R.toArray⟩,.string ⟨O.toArray⟩,.bool L,.slice J H G,.bool ys,.slice none 0 0,.int .i64 (Y:Int)] 60 (0,0))/\ff (fun B=>E+1<=B/\B<A.heap.size/\B≠m) A I U L J H G/\E<m/\w.grownBy A none
theorem I5 {w w3 m:World} {A G R:Nat} {L J O:List UInt8} {U s:Bool} {H:Option Addr} {E B:Nat} (Z:w.grownBy m none) (h3:w.heap.size<=w3.heap.size) (Y:A<m.heap.size) (fa:A<w3.heap.size) (hn:ff (fun I=>w3.heap.size<=I) m G O s H E B):
  sM w A G R L J O U (.pointer (some ⟨m.heap.size,0,none⟩)) (m.alloc (.cells #[.int .i64 (G:Int),.string ⟨L.toArray⟩,.string ⟨J.toArray⟩,.bool s,.slice H E B,.bool U,.slice none 0 0,.int .i64 (R:Int)] 60)):=by
 refine⟨m.heap.size,s,H,E,B,rfl,YK m _,?_,Y,af Z _⟩
 exact((hn.bound).same (S:=fun _=>False) (Fr2.none (qn m _ none)) (fun _ _ h=>h)).mono (fun I hk=>⟨by omega,by simp;omega,by omega⟩)
theorem td {w w3 H:World} {b Y E R:Nat} {O L nu:List UInt8} {U s:Bool} {G:Option Addr} {B m:Nat} {x0 x1 x2 x3 x4 x5 x6 x7:Value} (hg:w.grownBy H none) (h3:w.heap.size<=w3.heap.size) (hb:Y<b) (ao:w.heap.size<=b) (fa:b<w3.heap.size) (h0:H.heap[b]? = some (.cells #[x0,x1,x2,x3,x4,x5,x6,x7] 60 (0,0))) (hn:ff (fun A=>w3.heap.size<=A) H E nu s G B m):
  sM w Y E R O L nu U (.pointer (some ⟨b,0,none⟩)) ((((((((H.setCell ⟨b,0,none⟩ (.int .i64 (E:Int))).setCell ⟨b,1,none⟩ (.string ⟨O.toArray⟩)).setCell ⟨b,2,none⟩ (.string ⟨L.toArray⟩)).setCell ⟨b,3,none⟩ (.bool s)).setCell ⟨b,4,none⟩ (.slice G B m)).setCell ⟨b,5,none⟩ (.bool U)).setCell ⟨b,6,none⟩ (.slice none 0 0)).setCell ⟨b,7,none⟩ (.int .i64 (R:Int))):=by
 obtain⟨hp,J⟩:=mY h0 (.int .i64 (E:Int)) (.string ⟨O.toArray⟩) (.string ⟨L.toArray⟩) (.bool s) (.slice G B m) (.bool U) (.slice none 0 0) (.int .i64 (R:Int))
 refine⟨b,s,G,B,m,rfl,hp,?_,hb,Fr2.after hg J (fun ak hj=>by have I:ak=b:=hj;omega)⟩
 exact((hn.bound).same J (fun A Z I=>by have I:A=b:=I;omega)).mono (fun A Z=>⟨by omega,zn Z.2 J.size,by omega⟩)
theorem Fr {m A:World} {b:Nat} {x0 x1 x2 x3 x4 x5 x6 x7:Value} {B E G H I J L O:Value} (U:m.grownBy A none) (hb:m.heap.size<=b) (R:A.heap[b]? = some (.cells #[x0,x1,x2,x3,x4,x5,x6,x7] 60 (0,0))):
  m.grownBy ((((((((A.setCell ⟨b,0,none⟩ B).setCell ⟨b,1,none⟩ E).setCell ⟨b,2,none⟩ G).setCell ⟨b,3,none⟩ H).setCell ⟨b,4,none⟩ I).setCell ⟨b,5,none⟩ J).setCell ⟨b,6,none⟩ L).setCell ⟨b,7,none⟩ O) none:=
 Fr2.after U (mY R B E G H I J L O).2 (fun Z Y=>by have ak:Z=b:=Y;omega)
theorem sM.drew {w J:World} {m G H:Nat} {B A E:List UInt8} {L:Bool} {I:Value} (h:sM w m G H B A E L I J):sM w m G H B A E L I J.drew:=by
 obtain⟨O,ak,pw,nw,R,U,Y,Z,h4,h5⟩:=h
 exact⟨O,ak,pw,nw,R,U,Y,Z.same (S:=fun _=>False) (Fr2.none (aC (ad _ _))) (fun _ _ h=>h),h4,aC h5⟩
theorem NG (T:List Tok) (i j:Nat) {u:Tr} (m:isN u=true):axT T (.nd 12 [.lf i,u,.lf j])=axT T u:=by
 have h:bQ T [.lf i,u,.lf j] = [axT T u]:=by
  rw [bQ,bQ,bQ,bQ,if_neg (by simp [isN]),if_pos m,if_neg (by simp [isN])]
 rw [axT,if_pos rfl,h];rfl
theorem EAt.eight {F:Nat->Prop} {w:World} {x:Ex} {q:List Value} (h:EAt F w x q):∃m A B E G H I J,q = [m,A,B,E,G,H,I,J]:=by
 cases x with
 | mk op Y U Z ys R ps=>
   simp only [EAt] at h
   obtain⟨ao,pw,nw,O,pk,L,ak,rfl,-⟩:=h
   exact⟨_,_,_,_,_,_,_,_,rfl⟩
theorem MV {wr w7 wa U R:World} {B G base I H L n9 ak:Nat} {J:Option Addr} {Y:List (List Value)} {q:List Value} {ks:List Ex} {x:Ex} {u:Value} (hw:B<=wr.heap.size) (hO:ag 8 60 wr base (.slice J I H) Y) (cB:G<base) (JQ:G<wr.heap.size)
  (kZ:LsE (fun m=>B<=m/\m<wr.heap.size/\m≠G/\(Value.slice J I H).ownBlock≠some m) wr ks Y) (dV:wr.grownBy w7 none) (hq:EAt (fun m=>wr.heap.size<=m) w7 x q) (dz:w7.grownBy wa none) (ao:wa.heap.size=w7.heap.size+1)
  (Z:wa.grownBy U (Value.slice J I H).ownBlock) (el:(Value.slice J I H).ownBlock=some L\/L=w7.heap.size+1) (hf:(U.setCell ⟨G,6,none⟩ u).grownBy R none):
  LsE (fun m=>B<=m/\m<R.heap.size/\m≠G/\(Value.slice (some ⟨L,0,none⟩) n9 ak).ownBlock≠some m) R (ks++[x]) (Y++[q]):=by
 have qU:=ag.at hO
 have s7:=dV.size
 have s9:=Z.size
 have sf:=hf.size
 have sc:(U.setCell ⟨G,6,none⟩ u).heap.size=U.heap.size:=by simp [World.setCell]
 have fr:Fr2 (fun m=>(Value.slice J I H).ownBlock=some m\/m=G) w7 R:=
  ((Fr2.none dz).trans ((Fr2.of Z (fun m A=>.inl A)).trans ((Fr2.setCell (Fr2.refl _ _) (.inr rfl) u).trans (Fr2.none hf))))
 have bc:∀m,m<w7.heap.size->(Value.slice J I H).ownBlock≠some m->(Value.slice (some ⟨L,0,none⟩) n9 ak).ownBlock≠some m:=fun m E O A=>by
  have A:L=m:=Option.some.inj (show some L=some m from A)
  rcases el with h | h
  ·exact O (by rw [h,A])
  ·omega
 have sH:∀m,wr.heap.size<=m->(Value.slice J I H).ownBlock≠some m:=fun m E A=>by have:=qU _ A;omega
 refine Gq ?_ ?_
 ·have O:=EAt.same fr (fun m (E:wr.heap.size<=m/\m<w7.heap.size)=>fun A=>by
   rcases A with A | A
   ·exact sH m E.1 A
   ·omega) hq.bound
  exact EAt.mono (fun m E=>⟨by omega,by omega,by omega,bc m E.2 (sH m E.1)⟩) O
 ·have O:=LsE.same fr (fun m (E:B<=m/\m<wr.heap.size/\m≠G/\(Value.slice J I H).ownBlock≠some m)=>fun A=>by
   rcases A with A | A
   ·exact E.2.2.2 A
   ·exact E.2.2.1 A) (kZ.kept dV)
  exact LsE.mono (fun m E=>⟨E.1,by omega,E.2.2.1,bc m (by omega) E.2.2.2⟩) O
theorem aaU (T:List Tok) {k:Nat} {l:List Tr} (m:k≠12):axT T (.nd k l)=Nf (bR k (fun A=>tkT T ((ba l).getD A T.length)) []) (bQ T l):=by
 rw [axT,if_neg m,vT]
theorem ag.rows {s n c:Nat} {T:TypeId} {w:World} {base:Nat} {p:Option Addr} {l:List (List Value)} (h:ag s T w base (.slice p n c) l):n=l.length/\GAt s w p l/\(l≠[]->∃a,p=some a/\base<=a.block/\a.block<w.heap.size):=by
 obtain⟨p',L,m,G,R,U,Y⟩:=h.is
 injection m with A B O
 subst A
 refine⟨B,G,fun E=>?_⟩
 have Z:=length_pos_iff.2 E
 obtain⟨a,H,I,J⟩:=ag.lt h rfl (by omega)
 exact⟨a,H,I,J⟩
structure kQ (T:List Tok) (N:List Nd) (k:Int) (t:Tr):Prop where
 nd:isN t=true
 we:WE T t
 ko:kOk t
 lv:∀i∈lvT t,i<T.length
 pl:ug N k t
end Go.Proofs.YtpkipghjohomcaaGreatDoor
