/- Texts and bytes: a text behind bytes of the call's own; bytes as a text. For every layer whose dump has []uint8 and string. -/
import Derived.Test.YtgoadmkenglglaaMemBytes
import Derived.Lib.AppendStr
import Derived.Laws.IdiomStrings
import Derived.Laws.BytesString
namespace Go.Proofs.Ytgoadmkenglglaa.Mem
open Go.RowKit Go.Proofs.Ytgoadmkenglglaa.Right
set_option linter.unusedVariables false

/-- A text's bytes, behind those of the call's own. -/
theorem wp_text {B : Nat} {W w0 : World} {v : Value} {l : List UInt8} (h : Made B W v l w0) (x : ByteArray) {ops : Array Oper} {rest : List Oper} {o : Oper} {a : Act} {Q : Exit → Act → World → Prop} (s y : Operand)
    (hgd : o.guard = none) (ho : o.op = .call { callee := .builtin .append, args := #[s, y], argTypes := #[23, 9] })
    (hs : a.eval s = v) (hy : a.eval y = .string x) (hl : l.length + x.size ≤ 2000000)
    (k : ∀ v' w', Made B W v' (l ++ x.data.toList) w' → w0.grownBy w' v.ownBlock → wpList Try.prog ops Q rest (a.put o.dst v') w') :
    wpList Try.prog ops Q (o :: rest) a w0 := by
  obtain ⟨i, hi, hz, hs1, hb⟩ := info_parts info_byte
  refine Lib.wpList_append_own_string _ hgd s y 23 9 ho B 5 i Try.underlying23 Try.underlying9 hi hz hs1 hb v l.length (bys l) hs h.1 x hy (by unfold maxLen; omega) (by omega) h.2.2 fun v' w' g1 g2 _ => ?_
  exact k v' w' (h.grow (show w'.ownsRow B 5 1 v' (l.length + x.size) (bys (l ++ x.data.toList)) by rw [← bys_app]; exact g1) g2) g2
theorem convert_row (W : World) (b o m c : Nat) (t : List UInt8) (hm : t.length = m) (h : ∀ j x, (bys t)[j]? = some x → W.cell? ⟨b, o + j, none⟩ = some x) :
    (convert 23 9 (.slice (some ⟨b, o, none⟩) m c)).run Try.prog W = .ok (.string ⟨t.toArray⟩) W := by
  subst hm
  refine run_convert_bytes_back W 23 9 5 ⟨b, o, none⟩ _ t Try.underlying23 Try.underlying5 Try.underlying9 fun j hj => ?_
  have e2 : (⟨b, o, none⟩ : Addr).add j = ⟨b, o + j, none⟩ := by unfold Addr.add; split <;> simp_all
  rw [e2]
  exact h j _ (by simp [bys, hj])
/-- A slice of bytes as a text, nil or not. -/
theorem convert_any (W : World) (B m c : Nat) (A : Option Addr) (t : List UInt8) (hm : t.length = m) (h : Row W B A (bys t)) :
    (convert 23 9 (.slice A m c)).run Try.prog W = .ok (.string ⟨t.toArray⟩) W := by
  cases t with
  | nil =>
    subst hm
    rw [List.length_nil, run_convert_bytes_string W 23 9 5 A 0 c Try.underlying23 Try.underlying5 Try.underlying9]
    cases A <;> rfl
  | cons x r =>
    obtain ⟨b, o, e, _, _⟩ := h 0 (.int .u8 (x.toNat : Int)) rfl
    subst e
    refine convert_row W b o m c (x :: r) hm fun j y hj => ?_
    obtain ⟨b', o', he, _, hc⟩ := h j y hj
    injection he with he
    injection he with e1 e2
    subst e1 e2
    exact hc
end Go.Proofs.Ytgoadmkenglglaa.Mem
