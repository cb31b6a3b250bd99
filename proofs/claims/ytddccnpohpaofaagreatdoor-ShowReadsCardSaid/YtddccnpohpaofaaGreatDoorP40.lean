/- Lemmas. -/
import Derived.Test.YtddccnpohpaofaaGreatDoorP39
set_option linter.unusedVariables false
set_option linter.unusedSimpArgs false
namespace Go.Proofs.YtddccnpohpaofaaGreatDoor
open Go.RowKit

theorem FormAny.good {T : List TokI} {N : List Nd} {l : List UInt8} {x : Ex} {w : World} {e : Ending} {w' : World} (h : FormAny T N l w e w') (hg : TGood T N l true) (hf : formE l 200 = x) : FormPost x w e w' := by
  unfold FormAny at h
  rw [hf] at h
  clear hf
  obtain ⟨hg', he⟩ := h
  rcases he with ⟨-, q, hq0, hq⟩ | ⟨hb, -⟩
  · exact ⟨hg', q, hq0, hq⟩
  · exact absurd hg hb
theorem FormulaOf_c (s : ByteArray) (D : Int) (hs : s.size ≤ 25000) (hok : (ansQ s.data.toList D true).2.1 = 0) (pt pn : Option Addr) (ct cn : Nat) (K : Kf) (w : World) (hla : LaidE w) (hls : LaidS w) (ht : TAt w pt (allE s.data.toList).1) (hn : NodesAt w pn (nodesQ s.data.toList D true) K) (hN : (nodesQ s.data.toList D true).length ≤ 2 * (allE s.data.toList).1.length) :
    Calls Tryz.prog 8 #[.agg #[.slice pt (allE s.data.toList).1.length ct, .slice pn (nodesQ s.data.toList D true).length cn]] w (FormPost (formE s.data.toList D) w) := by
  have hsl : s.data.toList.length = s.size := list_len s
  have hR := read_f (l := s.data.toList) (by omega) hok
  have hlen := len_all hR.lex
  have hg : TGood ((allE s.data.toList).1.map toI) (nodesQ s.data.toList D true) s.data.toList true := ⟨hR.ans, rfl, hR.nodes.symm⟩
  have hf : formE s.data.toList 200 = formE s.data.toList D := by
    unfold formE
    rw [show (200 : Int).toNat = 200 from rfl, hR.same]
  have h := FormulaOf_any ((allE s.data.toList).1.map toI) (nodesQ s.data.toList D true) K s hs (by rw [wholeI_toI, whole_all hR.lex]) (by rw [List.length_map]; omega) (by omega) (kids_few (by omega)) pt pn ct cn w hla hls (toks_map ht) hn
  rw [List.length_map] at h
  exact h.mono fun e w' he => FormAny.good he hg hf
end Go.Proofs.YtddccnpohpaofaaGreatDoor
