/- Lists of trees that a call makes: one more behind; what they read as. -/
import Derived.Test.YtmhojhfajkhbbaaDoorExMems
import Derived.Test.YtmhojhfajkhbbaaDoorMemOwn
namespace Go.Proofs.YtmhojhfajkhbbaaDoor.Ep
open Go.RowKit Go.Proofs.YtmhojhfajkhbbaaDoor.Mem Go.Deep
set_option linter.unusedVariables false

/-- A list of trees in a slice of the call's own; the trees' kids lie in blocks of S. -/
def OwnT (w : World) (base : Nat) (tE : TypeId) (S : Nat → Prop) (v : Value) (l : List Ex) : Prop := OwnD w base tE 7 S v (l.map exDt)
section
variable {w w' : World} {base : Nat} {tE : TypeId} {S S' : Nat → Prop} {v : Value} {l : List Ex}
theorem OwnT.nil (w : World) (base : Nat) (tE : TypeId) (S : Nat → Prop) : OwnT w base tE S (.slice none 0 0) [] := OwnD.nil _ _ _ _ _
theorem OwnT.made (w : World) (base : Nat) (tE : TypeId) (S : Nat → Prop) (cur : Array Value) (cap : Nat) (hb : base ≤ w.heap.size) (hm : cap ≤ maxLen) (hs : cur.size = cap * 7) :
    OwnT (w.alloc (.cells cur tE)) base tE S (.slice (some ⟨w.heap.size, 0, none⟩) 0 cap) [] := OwnD.made _ _ _ _ _ _ _ hb hm hs
theorem OwnT.lt (h : OwnT w base tE S v l) : ∀ k, v.ownBlock = some k → base ≤ k ∧ k < w.heap.size := OwnD.lt h
theorem OwnT.form (h : OwnT w base tE S v l) : ∃ A c, v = .slice A l.length c ∧ (A = none → c = 0) ∧ l.length ≤ c ∧ c ≤ maxLen := by
  have := OwnD.form h
  rw [List.length_map] at this
  exact this
theorem OwnT.kept {row : Option Nat} (h : OwnT w base tE S v l) (hg : w.grownBy w' row) (hne : v.ownBlock = none ∨ v.ownBlock ≠ row) (hS : ∀ b, S b → b < w.heap.size ∧ some b ≠ row) : OwnT w' base tE S v l := OwnD.kept h hg hne hS
theorem OwnT.more (h : OwnT w base tE S v l) (hS : ∀ b, S b → S' b) : OwnT w base tE S' v l := OwnD.more h hS
theorem OwnT.kids {A : Option Addr} {n c : Nat} (h : OwnT w base tE S (.slice A n c) l) : KidsIn w (fun b => S b ∨ (Value.slice A n c).ownBlock = some b) A 0 l := OwnD.row (by decide) h
/-- As the kids of a tree. -/
theorem OwnT.tree (h : OwnT w base tE S v l) (k o vk vn : Int) (vs nm : List UInt8) : ExIn w (fun b => S b ∨ v.ownBlock = some b) (.mk k o vk vn vs nm l) [.int .i64 k, .int .i64 o, .int .i64 vk, .int .i64 vn, .string (txt vs), .string (txt nm), v] := by
  obtain ⟨A, c, rfl, h1, h2, h3⟩ := h.form
  exact (exIn_mk _ _ _ _ _ _ _ _ _ _).2 ⟨A, c, rfl, h2, h3, h1, h.kids⟩
end
/-- One tree behind a list of the call's own. -/
theorem wp_tree {P : Program} {w0 : World} {ops : Array Oper} {rest : List Oper} {o : Oper} {a : Act} {Q : Exit → Act → World → Prop} {t tE : TypeId} {bytes g : Nat} (E : ElemK P t tE 7 bytes) (base : Nat) (hg : w0.heap.size = g) (s y : Operand)
    (hgd : o.guard = none) (ho : o.op = .call { callee := .builtin .append, args := #[s, y], argTypes := #[t, t] })
    {v : Value} {l : List Ex} {x : Ex} {cs : List Value} {S : Nat → Prop} (hs : a.eval s = v) (hown : OwnT w0 base tE S v l) (hx : ExIn w0 S x cs) (hS : ∀ b, S b → b < w0.heap.size ∧ some b ≠ v.ownBlock) (hy : a.eval y = .slice (some ⟨g, 0, none⟩) 1 1)
    (hn : l.length < 9223372036854775807) (hby : (l.length + 1) * bytes ≤ 140737488355328) (hB : base ≤ w0.heap.size)
    (h : ∀ v' w', OwnT w' base tE S v' (l ++ [x]) → (w0.alloc (.cells cs.toArray tE)).grownBy w' v.ownBlock → (v'.ownBlock = v.ownBlock ∨ v'.ownBlock = some (w0.alloc (.cells cs.toArray tE)).heap.size) → wpList P ops Q rest (a.put o.dst v') w') :
    wpList P ops Q (o :: rest) a (w0.alloc (.cells cs.toArray tE)) := by
  refine wp_dt E base hg s y hgd ho hs hown hx hx.len hx.one hS hy (by simpa using hn) (by simpa using hby) hB fun v' w' h1 h2 h3 => h v' w' ?_ h2 h3
  unfold OwnT
  rw [List.map_append]
  exact h1
end Go.Proofs.YtmhojhfajkhbbaaDoor.Ep
