/- Lists of trees that a call makes: one more behind; what they read as. Room for kids (slices.Grow of nothing); a column's place in a table of one column: the pro -/
import Derived.Test.YtjehhgilpadeiaaDoorJ08
import Derived.Test.YtjehhgilpadeiaaDoorJ29
import Derived.Lib.AppendZerosOnto
import Derived.Test.YtjehhgilpadeiaaDoorJ28
namespace Go.Proofs.YtjehhgilpadeiaaDoor.Ep
open Go.RowKit Go.Proofs.YtjehhgilpadeiaaDoor.Mem Go.Deep
set_option linter.unusedVariables false
/-- A list of trees in a slice of the call's own; the trees' kids lie in blocks of S. -/
def OwnT (w : World) (base : Nat) (tE : TypeId) (S : Nat → Prop) (v : Value) (l : List Ex) : Prop := OwnD w base tE 7 S v (l.map exDt)
section
variable {w w' : World} {base : Nat} {tE : TypeId} {S S' : Nat → Prop} {v : Value} {l : List Ex}
theorem OwnT.made (w : World) (base : Nat) (tE : TypeId) (S : Nat → Prop) (cur : Array Value) (cap : Nat) (hb : base ≤ w.heap.size) (hm : cap ≤ maxLen) (hs : cur.size = cap * 7) :
    OwnT (w.alloc (.cells cur tE)) base tE S (.slice (some ⟨w.heap.size, 0, none⟩) 0 cap) [] := OwnD.made _ _ _ _ _ _ _ hb hm hs
theorem OwnT.lt (h : OwnT w base tE S v l) : ∀ k, v.ownBlock = some k → base ≤ k ∧ k < w.heap.size := OwnD.lt h
theorem OwnT.form (h : OwnT w base tE S v l) : ∃ A c, v = .slice A l.length c ∧ (A = none → c = 0) ∧ l.length ≤ c ∧ c ≤ maxLen := by
  have := OwnD.form h
  rw [List.length_map] at this
  exact this
theorem OwnT.kept {row : Option Nat} (h : OwnT w base tE S v l) (hg : w.grownBy w' row) (hne : v.ownBlock = none ∨ v.ownBlock ≠ row) (hS : ∀ b, S b → b < w.heap.size ∧ some b ≠ row) : OwnT w' base tE S v l := OwnD.kept h hg hne hS
theorem OwnT.kids {A : Option Addr} {n c : Nat} (h : OwnT w base tE S (.slice A n c) l) : KidsIn w (fun b => S b ∨ (Value.slice A n c).ownBlock = some b) A 0 l := OwnD.row (by decide) h
/-- As the kids of a tree. -/
theorem OwnT.tree (h : OwnT w base tE S v l) (k o vk vn : Int) (vs nm : List UInt8) : ExIn w (fun b => S b ∨ v.ownBlock = some b) (.mk k o vk vn vs nm l) [.int .i64 k, .int .i64 o, .int .i64 vk, .int .i64 vn, .string (txt vs), .string (txt nm), v] := by
  obtain ⟨A, c, rfl, h1, h2, h3⟩ := h.form
  exact (exIn_mk _ _ _ _ _ _ _ _ _ _).2 ⟨A, c, rfl, h2, h3, h1, h.kids⟩
end
/-- One tree behind a list of the call's own. -/
theorem wp_tree {P : Program} {w0 : World} {ops : Array Oper} {rest : List Oper} {o : Oper} {a : Act} {Q : Exit → Act → World → Prop} {t tE : TypeId} {bytes g : Nat} (E : ElemK P t tE 7 bytes) (base : Nat) (hg : w0.heap.size = g) (s y : Operand)
    (hgd : o.guard = none) (ho : o.op = .call { callee := .builtin .append, args := #[s, y], argTypes := #[t, t] })
    {v : Value} {l : List Ex} {x : Ex} {cs : List Value} {S : Nat → Prop} (hs : a.eval s = v) (hown : OwnT w0 base tE S v l) (hx : ExIn w0 S x cs) (hS : ∀ b, S b → b < w0.heap.size ∧ some b ≠ v.ownBlock) (hy : a.eval y = .slice (some ⟨g, 0, none⟩) 1 1)
    (hn : l.length < 9223372036854775807) (hby : (l.length + 1) * bytes ≤ 140737488355328) (hB : base ≤ w0.heap.size)
    (h : ∀ v' w', OwnT w' base tE S v' (l ++ [x]) → (w0.alloc (.cells cs.toArray tE)).grownBy w' v.ownBlock → (v'.ownBlock = v.ownBlock ∨ v'.ownBlock = some (w0.alloc (.cells cs.toArray tE)).heap.size) → wpList P ops Q rest (a.put o.dst v') w') :
    wpList P ops Q (o :: rest) a (w0.alloc (.cells cs.toArray tE)) := by
  refine wp_dt E base hg s y hgd ho hs hown hx hx.len hx.one hS hy (by simpa using hn) (by simpa using hby) hB fun v' w' h1 h2 h3 => h v' w' ?_ h2 h3
  unfold OwnT
  rw [List.map_append]
  exact h1
end Go.Proofs.YtjehhgilpadeiaaDoor.Ep
namespace Go.Proofs.YtjehhgilpadeiaaDoor.Ev
open Go.RowKit Go.Proofs.YtjehhgilpadeiaaDoor.Mem Go.Proofs.YtjehhgilpadeiaaDoor.Right Go.Proofs.YtjehhgilpadeiaaDoor.Lx Go.Proofs.YtjehhgilpadeiaaDoor.Ep
set_option linter.unusedVariables false
abbrev tEx : TypeId := 61
theorem grow_none (w : World) : Calls Tryd.prog 129 #[.slice none 0 0, .int .i64 0] w fun e w' => e = .returned (.slice none 0 0) ∧ w = w' := by
  go_enter Tryd.func129, Tryd.ntmps129
  go_wp2
  go_ret
  exact ⟨rfl, rfl⟩
theorem grow_some (w : World) : Calls Tryd.prog 129 #[.slice none 0 0, .int .i64 2] w fun e w' => ∃ cap, e = .returned (.slice (some ⟨w.heap.size, 0, none⟩) 0 cap) ∧ 2 ≤ cap ∧ OwnT w' w.heap.size tEx (fun _ => False) (.slice (some ⟨w.heap.size, 0, none⟩) 0 cap) [] ∧ Below w.heap.size w w' := by
  go_enter Tryd.func129, Tryd.ntmps129
  go_wp2
  obtain ⟨cap, hcap⟩ : ∃ cap, (Question.appendCap 2 0 61).cut (w.tape w.drawn (Question.appendCap 2 0 61)) = cap := ⟨_, rfl⟩
  have h2 : 2 ≤ cap := hcap ▸ grownCap_ge w 2 0 tEx
  have hm : cap ≤ maxLen := hcap ▸ grownCap_le_maxLen w 2 0 tEx (by decide)
  rw [hcap]
  refine bodyPost_ret (results_tmp rfl _ _ _) rfl ⟨cap, rfl, h2, ?_, ?_⟩
  · refine OwnT.kept (row := none) (OwnT.made w w.heap.size tEx (fun _ => False) _ cap (Nat.le_refl _) hm ?_) ⟨rfl, rfl, rfl, Nat.le_refl _, fun _ _ _ => rfl⟩ (by simp [Value.ownBlock]) (fun b hb => hb.elim)
    rw [Array.size_append, size_zeroCells, size_zeroCells]
    show 2 * 7 + (cap - 2) * 7 = cap * 7
    omega
  · exact (al (Below.refl _ _) _).drew
/-- A table of one column. -/
structure Tb1 (w : World) (nm : ByteArray) (ty : Int) (A : Option Addr) (c : Nat) : Prop where
  cells : ∃ b, A = some ⟨b, 0, none⟩ ∧ b < w.heap.size ∧ w.cell? ⟨b, 0, none⟩ = some (.string nm) ∧ w.cell? ⟨b, 1, none⟩ = some (.int .i64 ty) ∧ w.cell? ⟨b, 2, none⟩ = some (.bool false)
theorem Tb1.below {w w' : World} {nm : ByteArray} {ty : Int} {A : Option Addr} {c : Nat} (h : Tb1 w nm ty A c) (hb : Below w.heap.size w w') : Tb1 w' nm ty A c := by
  obtain ⟨b, e, h1, h2, h3, h4⟩ := h
  exact ⟨b, e, Nat.lt_of_lt_of_le h1 hb.size, (hb.cell (p := ⟨b, 0, none⟩) h1).trans h2, (hb.cell (p := ⟨b, 1, none⟩) h1).trans h3, (hb.cell (p := ⟨b, 2, none⟩) h1).trans h4⟩
/-- A table as an argument. -/
abbrev tbV (n1 n2 : ByteArray) (A : Option Addr) (c : Nat) : Value := .agg #[.string n1, .string n2, .int .i64 0, .slice A 1 c, .slice none 0 0, .slice none 0 0]
theorem col1_any {w : World} {b : Nat} {t : TypeId} {nm : ByteArray} {ty : Int} (hc : Cel w b t #[.string nm]) : Calls Tryd.prog 55 #[.agg #[.string nm, .int .i64 ty, .bool false], .pointer (some ⟨b, 0, none⟩)] w fun e w' => e = .returned (.bool true) ∧ Below w.heap.size w w' := by
  have HB := Lib.hid (al (Below.refl w.heap.size w) (.cells #[.string nm, .int .i64 ty, .bool false] 58))
  have c0 := fun o => (hc.alloc o).at_ 0
  have ht : (nm.toList == nm.toList) = true := by simp
  clear hc
  go_enter Tryd.func55, Tryd.ntmps55
  go_wp2
  go_ret
  exact ⟨rfl, HB.out⟩
set_option maxHeartbeats 400000 in
theorem colIx_any {w : World} {b : Nat} {t : TypeId} {nm : ByteArray} {ty : Int} {A : Option Addr} {c : Nat} (h : Tb1 w nm ty A c) (hc : Cel w b t #[.string nm]) : Calls Tryd.prog 54 #[.slice A 1 c, .func (.func 55) #[] #[.pointer (some ⟨b, 0, none⟩)]] w fun e w' => e = .returned (.int .i64 0) ∧ Below w.heap.size w w' := by
  obtain ⟨g, rfl, hg, q0, q1, q2⟩ := h
  have HC := Lib.hid (col1_any (ty := ty) hc)
  clear hc hg
  go_enter Tryd.func54, Tryd.ntmps54
  go_wp2
  go_loopw [8] (fun i wr => i = .int .i64 0 ∧ wr = w) (fun _ _ => 1)
  case atStart => exact ⟨rfl, rfl⟩
  case round =>
    obtain ⟨rfl, rfl⟩ := hrel
    go_wp2_with (go_at_call 55; (with_reducible refine HC.out.mono ?_); rintro e' w1 ⟨rfl, hb1⟩; have HB1 := Lib.hid hb1; clear hb1)
    go_ret
    exact ⟨rfl, HB1.out⟩
theorem col_any {w : World} {n1 n2 nm : ByteArray} {ty : Int} {A : Option Addr} {c : Nat} (h : Tb1 w nm ty A c) : Calls Tryd.prog 18 #[tbV n1 n2 A c, .string nm] w fun e w' => e = .returned (.int .i64 0) ∧ Below w.heap.size w w' := by
  obtain ⟨V, hV⟩ : ∃ V, (w.alloc (.cells #[.string n1, .string n2, .int .i64 0, .slice A 1 c, .slice none 0 0, .slice none 0 0] 26)).alloc (.cells #[.string nm] 9) = V := ⟨_, rfl⟩
  have hbv : Below w.heap.size w V := by rw [← hV]; exact al (al (Below.refl _ _) _) _
  have HBV := Lib.hid hbv
  have c3 : V.cell? ⟨w.heap.size, 3, none⟩ = some (.slice A 1 c) := (show Cel V w.heap.size 26 #[.string n1, .string n2, .int .i64 0, .slice A 1 c, .slice none 0 0, .slice none 0 0] from by rw [← hV]; exact (Cel.new w _ _ rfl).alloc _).at_ 3
  have HC := Lib.hid (colIx_any (h.below hbv) (show Cel V (w.heap.size + 1) 9 #[.string nm] from by rw [← hV]; exact Cel.new _ _ _ (by simp)))
  clear h hbv
  go_enter Tryd.func18, Tryd.ntmps18
  go_wp2_with (go_at_call 54; (with_reducible refine HC.out.mono ?_); rintro e' w1 ⟨rfl, hb1⟩; have HB1 := Lib.hid (Mem.on HBV.out hb1); clear hb1)
  go_ret
  exact ⟨rfl, HB1.out⟩
end Go.Proofs.YtjehhgilpadeiaaDoor.Ev
