/- For every text the law of layer 8 on programs answers true: where the text of at most 1500 bytes is a program, what the program reads of it (its dump with clauses and without, the places of its parts, the places where clauses may be put) is what the document's own reading gives; where it is none, the answer is the fault of form and nothing. -/
import Derived.Lib.SmallJoins
import Derived.Test.YtpkipghjohomcaaGreatDoorP49
import Derived.Test.YtpkipghjohomcaaGreatDoorP50
set_option linter.unusedVariables false
set_option linter.unusedSimpArgs false
set_option maxRecDepth 100000
namespace Go.Proofs.YtpkipghjohomcaaGreatDoor.astPrograms
open Go.ChangeShapes Go.WideShapes Go.ChangeAt Go.RowKit Go.ChangeMaps Go.Deep Go.Joins
theorem lifted (os:Os) (aq:os.Started) (H:Type) (enc:TypeId×Value->H):
  ReturnsInHanded {} Tryz.checked os 3 .any (fun w m=>(Rows.astProgramsSpec.pre enc Tryz.prog Tryz.f3 [] false w m/\laidMetH Tryz.prog tH w)/\sizedMet enc Tryz.prog Tryz.f3 (OpenSpec.ofChange Rows.astProgramsSpec) false w m)
   (Rows.astProgramsSpec.post enc Tryz.prog Tryz.f3 false true false false):=by
 refine returnsInHanded_of_change_and (C:=Tryz.checked) (X:=fun w _=>laidMetH Tryz.prog tH w) (fun _ _ _ hh h=>h.of_heap hh) own aq (by kernel_rfl) Tryz.func3
  (ChangeSpec.witness_shaped (enc:=enc) (C:=Tryz.checked) (os:=os) (X:=fun w _=>laidMetH Tryz.prog tH w) false (World.laidAll Tryz.prog os tH) #[.string ⟨#[]⟩] 8 (World.laidAll_os _ _ _)
   (Bp os _) (by kernel_rfl) (by kernel_rfl) (by kernel_rfl) (Jj os _)) ?_
 intro W Y m Z gs av J I _ _ hL _
 have A:∀(L:Nat) O R,Tryz.f3.params[L]? = some O->m[L]? = some R->Value.okWide Tryz.prog W .any Y O R:=J
 have ak:=I
 obtain⟨ao,aJ,G,hV,rfl,YM,K3⟩:=I
 have E:DataW.TrodAll enc Tryz.prog W 0 (fun _=>true) true Tryz.f3.params.toList m.toList Z ao:=G
 rw [Tryz.params3] at E A
 obtain⟨U,aL,d0,ax,p0,q0,au,rfl,rfl,h0,r0⟩:=trodAll_cons E
 obtain⟨rfl,rfl,rfl⟩:=trodAll_nil r0
 obtain rfl:m=#[U]:=by cases m;simp_all
 obtain⟨rfl,rfl⟩:=trodVars_none hV
 obtain⟨ap,rfl,rfl,rfl,hs⟩:=open_string Tryz.underlying9 (A 0 9 U rfl rfl) h0
 have B:=Si hL
 clear G J
 refine(CQ ap W B.1 B.2).mono fun ay W' ⟨he,hg⟩=>?_
 subst he
 refine⟨_,rfl,_,_,_,[],[],[],by simpa using ak,?_,?_,?_,(dF hg).frame _,fun h=>by cases h⟩
 ·exact trodAll_cons_mk (shut_bool Tryz.underlying4 _) trodAll_mk0
 ·exact trodAll_cons_mk (shut_string Tryz.underlying9 hs) trodAll_mk0
 ·rfl
theorem over:Rows.astProgramsRow.holds Tryz.pinned (OpenSpec.ofChange Rows.astProgramsSpec):=
 OpenClaim.holds_of_wide 3 Tryz.f3 rfl rfl rfl rfl rfl rfl rfl ⟨rfl,rfl,rfl,rfl,rfl⟩ rfl rfl rfl rfl rfl (by kernel_rfl) Tryz.func3 closed
  (of_decide_eq_true (by kernel_rfl)) (by unfold Func.isWrapper;first | (rw [if_pos (by decide +kernel)];kernel_rfl) | (rw [if_neg (by decide +kernel)];exact⟨rfl,rfl⟩))
  (fun A B H m _=>lifted A B H m)
theorem proved:Rows.AstProgramsCardSaid:=
 Claim7.holds_tied_plain_at .later [] [.data,.data,.data,.data,.data,.data,.data,.pinned] true Rows.astProgramsCard.stood.harness false
  over (fun _ h=>by cases h) p1 (fun _ h=>by cases h) astPrograms_row_tie rfl ⟨rfl,rfl⟩ p2 rfl
  (fun B E G H=>by
   obtain rfl:B=3:=Option.some.inj ((show Tryz.prog.funcNamed "touchstone/touchstonelaw08.AstPrograms" = some 3 by kernel_rfl).symm.trans G) |>.symm
   obtain rfl:E=Tryz.f3:=(Option.some.inj (Tryz.func3.symm.trans H)).symm
   exact⟨p3,fun O m A=>by
    rw [Tryz.params3] at A
    have I:m∈[9]:=by simpa using Array.mem_of_getElem? A
    have L:([9].all fun J=>!Tryz.prog.wantsStandIn J)=true:=by kernel_rfl
    exact(show Tryz.prog.wantsStandIn m=false by simpa using List.all_eq_true.1 L m I)⟩)
  p4
end Go.Proofs.YtpkipghjohomcaaGreatDoor.astPrograms
