/- Lemmas. -/
import Derived.Test.YtjbgnopnehgbaaaGreatDoorP35
set_option linter.unusedVariables false
set_option linter.unusedSimpArgs false
set_option maxHeartbeats 8000000
set_option maxRecDepth 100000
namespace Go.Proofs.YtjbgnopnehgbaaaGreatDoor
open Go.RowKit
def cF (x:Ex) (w:World) (e:Ending) (w':World):Prop:=w.grownBy w' none∧∃q,e=.returned (.agg q.toArray)∧EAt (fun k=>w.heap.size≤k) w' x q∧q[6]? = some (.slice none 0 0)
theorem gv {F:Nat→Prop} {w:World} {op ps:Nat} {nm md:List UInt8} {ys:Bool} (ho:op≠1):EAt F w (.mk op nm md [] ys [] ps) [.int .i64 (op:Int),aw nm,aw md,.bool false,.slice none 0 0,.bool ys,.slice none 0 0,.int .i64 (ps:Int)]:=by
 simp only [EAt]
 exact⟨false,none,0,0,none,0,[],rfl,by unfold dV;rw [if_neg ho];exact⟨Zd.zero_int w,fun h=>absurd h (Nat.lt_irrefl 0)⟩,GAt.nil,by simp [LsE],fun h=>absurd rfl h⟩
theorem three (w:World) (A B C:Obj):∃(W:World) (b0 b1 b2:Nat),W=((w.alloc A).alloc B).alloc C∧w.heap.size=b0∧w.heap.size+1=b1∧w.heap.size+1+1=b2∧W.heap[b0]? = some A∧W.heap[b1]? = some B∧W.heap[b2]? = some C∧w.grownBy W none∧b0<b1∧b1<b2:=by
 have h1:=heap_alloc_new w A
 have h2:=heap_alloc_new (w.alloc A) B
 have h3:=heap_alloc_new ((w.alloc A).alloc B) C
 have s1:(w.alloc A).heap.size=w.heap.size+1:=by simp
 have s2:((w.alloc A).alloc B).heap.size=w.heap.size+1+1:=by simp
 rw [s1] at h2
 rw [s2] at h3
 exact⟨_,_,_,_,rfl,rfl,rfl,rfl,bx (World.grownBy_alloc _ _ none) (bx (World.grownBy_alloc _ _ none) h1),bx (World.grownBy_alloc _ _ none) h2,h3,ae (ae (ae (ad _ _) _) _) _,by omega,by omega⟩
theorem abl (T:List Tok) (p:Option Addr) (c:Nat) (w:World) (hT:T.length≤150000) (h0:0<T.length) (ht:TAt w p T):
  Calls Tryz.prog 97 #[.int .i64 8,.slice p T.length c] w (cF (bJ 8 (tkT T) []) w):=by
 obtain⟨g,off,rfl,gc,t0,t1,t2,t3⟩:=bQ ht (i:=0) h0
 rw [Nat.zero_mul,Nat.add_zero] at t0 t1 t2 t3
 have HX:Hid (∀w',w.grownBy w' none→cF (bJ 8 (tkT T) []) w (.returned (.agg #[.int .i64 21,.string ⟨#[]⟩,.string ⟨#[]⟩,.bool false,.slice none 0 0,.bool false,.slice none 0 0,.int .i64 ((tkT T 0).pos:Int)])) w'):=zh (fun w' hg=>⟨hg,_,rfl,gv (by decide),rfl⟩)
 obtain⟨m,hm⟩:∃m,T.length=m:=⟨_,rfl⟩
 rw [hm] at hT h0 ⊢
 have z0:decide (0<m)=true:=zd h0
 have SE:decide ((0:Int)<(m:Int))=true:=zd (by omega)
 unfold aw at t1 t2
 generalize (⟨(tkT T 0).lead.toArray⟩:ByteArray)=le at *
 generalize (⟨(tkT T 0).text.toArray⟩:ByteArray)=te at *
 generalize (tkT T 0).kind=k at *
 generalize (tkT T 0).pos=ps at *
 clear ht hm
 go_enter Tryz.func97,Tryz.ntmps97
 go_wp2_with fail
 refine bodyPost_ret (v:=.agg #[.int .i64 21,.string ⟨#[]⟩,.string ⟨#[]⟩,.bool false,.slice none 0 0,.bool false,.slice none 0 0,.int .i64 (ps:Int)]) (by simp [results,Tryz.results97,go_sem]) rfl (HX.out _ gbx)
theorem aaA (T:List Tok) (p:Option Addr) (c:Nat) (w:World) (hT:T.length≤150000) (h0:0<T.length) (ht:TAt w p T):
  Calls Tryz.prog 97 #[.int .i64 9,.slice p T.length c] w (cF (bJ 9 (tkT T) []) w):=by
 obtain⟨g,off,rfl,gc,t0,t1,t2,t3⟩:=bQ ht (i:=0) h0
 rw [Nat.zero_mul,Nat.add_zero] at t0 t1 t2 t3
 have HX:Hid (∀w',w.grownBy w' none→cF (bJ 9 (tkT T) []) w (.returned (.agg #[.int .i64 23,.string ⟨#[]⟩,.string ⟨#[]⟩,.bool false,.slice none 0 0,.bool false,.slice none 0 0,.int .i64 ((tkT T 0).pos:Int)])) w'):=zh (fun w' hg=>⟨hg,_,rfl,gv (by decide),rfl⟩)
 obtain⟨m,hm⟩:∃m,T.length=m:=⟨_,rfl⟩
 rw [hm] at hT h0 ⊢
 have z0:decide (0<m)=true:=zd h0
 have SE:decide ((0:Int)<(m:Int))=true:=zd (by omega)
 unfold aw at t1 t2
 generalize (⟨(tkT T 0).lead.toArray⟩:ByteArray)=le at *
 generalize (⟨(tkT T 0).text.toArray⟩:ByteArray)=te at *
 generalize (tkT T 0).kind=k at *
 generalize (tkT T 0).pos=ps at *
 clear ht hm
 go_enter Tryz.func97,Tryz.ntmps97
 go_wp2_with fail
 refine bodyPost_ret (v:=.agg #[.int .i64 23,.string ⟨#[]⟩,.string ⟨#[]⟩,.bool false,.slice none 0 0,.bool false,.slice none 0 0,.int .i64 (ps:Int)]) (by simp [results,Tryz.results97,go_sem]) rfl (HX.out _ gbx)
theorem Xj (T:List Tok) (p:Option Addr) (c:Nat) (w:World) (hT:T.length≤150000) (h0:0<T.length) (ht:TAt w p T):
  Calls Tryz.prog 97 #[.int .i64 17,.slice p T.length c] w (cF (bJ 17 (tkT T) []) w):=by
 obtain⟨g,off,rfl,gc,t0,t1,t2,t3⟩:=bQ ht (i:=0) h0
 rw [Nat.zero_mul,Nat.add_zero] at t0 t1 t2 t3
 have HX:Hid (∀w',w.grownBy w' none→cF (bJ 17 (tkT T) []) w (.returned (.agg #[.int .i64 4,.string ⟨#[]⟩,.string ⟨#[]⟩,.bool false,.slice none 0 0,.bool false,.slice none 0 0,.int .i64 ((tkT T 0).pos:Int)])) w'):=zh (fun w' hg=>⟨hg,_,rfl,gv (by decide),rfl⟩)
 obtain⟨m,hm⟩:∃m,T.length=m:=⟨_,rfl⟩
 rw [hm] at hT h0 ⊢
 have z0:decide (0<m)=true:=zd h0
 have SE:decide ((0:Int)<(m:Int))=true:=zd (by omega)
 unfold aw at t1 t2
 generalize (⟨(tkT T 0).lead.toArray⟩:ByteArray)=le at *
 generalize (⟨(tkT T 0).text.toArray⟩:ByteArray)=te at *
 generalize (tkT T 0).kind=k at *
 generalize (tkT T 0).pos=ps at *
 clear ht hm
 go_enter Tryz.func97,Tryz.ntmps97
 go_wp2_with fail
 refine bodyPost_ret (v:=.agg #[.int .i64 4,.string ⟨#[]⟩,.string ⟨#[]⟩,.bool false,.slice none 0 0,.bool false,.slice none 0 0,.int .i64 (ps:Int)]) (by simp [results,Tryz.results97,go_sem]) rfl (HX.out _ gbx)
theorem Xb (T:List Tok) (p:Option Addr) (c:Nat) (w:World) (hT:T.length≤150000) (h0:0<T.length) (ht:TAt w p T):
  Calls Tryz.prog 97 #[.int .i64 14,.slice p T.length c] w (cF (bJ 14 (tkT T) []) w):=by
 obtain⟨g,off,rfl,gc,t0,t1,t2,t3⟩:=bQ ht (i:=0) h0
 rw [Nat.zero_mul,Nat.add_zero] at t0 t1 t2 t3
 have HX:Hid (∀w',w.grownBy w' none→cF (bJ 14 (tkT T) []) w (.returned (.agg #[.int .i64 3,.string ⟨(tkT T 0).text.toArray⟩,.string ⟨#[]⟩,.bool false,.slice none 0 0,.bool false,.slice none 0 0,.int .i64 ((tkT T 0).pos:Int)])) w'):=zh (fun w' hg=>⟨hg,_,rfl,gv (by decide),rfl⟩)
 obtain⟨m,hm⟩:∃m,T.length=m:=⟨_,rfl⟩
 rw [hm] at hT h0 ⊢
 have z0:decide (0<m)=true:=zd h0
 have SE:decide ((0:Int)<(m:Int))=true:=zd (by omega)
 unfold aw at t1 t2
 generalize (⟨(tkT T 0).lead.toArray⟩:ByteArray)=le at *
 generalize (⟨(tkT T 0).text.toArray⟩:ByteArray)=te at *
 generalize (tkT T 0).kind=k at *
 generalize (tkT T 0).pos=ps at *
 clear ht hm
 go_enter Tryz.func97,Tryz.ntmps97
 go_wp2_with fail
 go_region
 all_goals
  go_wp2_with fail
  refine bodyPost_ret (v:=.agg #[.int .i64 3,.string te,.string ⟨#[]⟩,.bool false,.slice none 0 0,.bool false,.slice none 0 0,.int .i64 (ps:Int)]) (by simp [results,Tryz.results97,go_sem]) rfl (HX.out _ gbx)
theorem VN (T:List Tok) (p:Option Addr) (c:Nat) (w:World) (hT:T.length≤150000) (h0:0<T.length) (ht:TAt w p T):
  Calls Tryz.prog 97 #[.int .i64 16,.slice p T.length c] w (cF (bJ 16 (tkT T) []) w):=by
 obtain⟨g,off,rfl,gc,t0,t1,t2,t3⟩:=bQ ht (i:=0) h0
 rw [Nat.zero_mul,Nat.add_zero] at t0 t1 t2 t3
 have HX:Hid (∀w',w.grownBy w' none→cF (bJ 16 (tkT T) []) w (.returned (.agg #[.int .i64 2,.string ⟨#[]⟩,.string ⟨#[]⟩,.bool false,.slice none 0 0,.bool (decide ((tkT T 0).text = [116,114,117,101])),.slice none 0 0,.int .i64 ((tkT T 0).pos:Int)])) w'):=zh (fun w' hg=>⟨hg,_,rfl,gv (by decide),rfl⟩)
 obtain⟨m,hm⟩:∃m,T.length=m:=⟨_,rfl⟩
 rw [hm] at hT h0 ⊢
 have z0:decide (0<m)=true:=zd h0
 have SE:decide ((0:Int)<(m:Int))=true:=zd (by omega)
 have e1:((⟨(tkT T 0).text.toArray⟩:ByteArray).toList == [116,114,117,101])=decide ((tkT T 0).text = [116,114,117,101]):=by
  rw [ByteArray.toList_eq]
  show((tkT T 0).text == [116,114,117,101])=_
  by_cases h:(tkT T 0).text = [116,114,117,101]
  ·rw [zd h];simpa using h
  ·rw [decide_eq_false h];simpa using h
 generalize decide ((tkT T 0).text = [116,114,117,101])=tv at *
 unfold aw at t1 t2
 generalize (⟨(tkT T 0).lead.toArray⟩:ByteArray)=le at *
 generalize (⟨(tkT T 0).text.toArray⟩:ByteArray)=te at *
 generalize (tkT T 0).kind=k at *
 generalize (tkT T 0).pos=ps at *
 clear ht hm
 go_enter Tryz.func97,Tryz.ntmps97
 go_wp2_with fail
 go_region
 all_goals
  go_wp2_with fail
  refine bodyPost_ret (v:=.agg #[.int .i64 2,.string ⟨#[]⟩,.string ⟨#[]⟩,.bool false,.slice none 0 0,.bool tv,.slice none 0 0,.int .i64 (ps:Int)]) (by simp [results,Tryz.results97,go_sem]) rfl (HX.out _ gbx)
end Go.Proofs.YtjbgnopnehgbaaaGreatDoor
