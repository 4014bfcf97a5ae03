/- The document's Put, Set and Drop of slots. -/
import Derived.Test.YtgoadmkenglglaaPageRefSmall
namespace Go.Proofs.Ytgoadmkenglglaa.Pg
open Go.RowKit Go.Proofs.Ytgoadmkenglglaa.Mem Go.Proofs.Ytgoadmkenglglaa.Right
set_option linter.unusedVariables false

/-- Slots that the call made, whose data can be read. -/
def CopyR (w : World) (S : List Sl) (v : Value) (w' : World) : Prop := ∃ rs, rs.map (fun r => r.s) = S ∧ MadeR w v rs w' ∧ Dats w' rs
theorem copied_ref (A : Option Addr) (n c : Nat) (S : List Sl) (w : World) (h : RL w A n c S) (hn : n ≤ 1000) :
    Calls Try.prog 39 #[.slice A n c] w fun e w' => ∃ v, e = .returned v ∧ CopyR w S v w' := by
  obtain ⟨rs, e, h1, h2, h3, h4, h5, h6⟩ := h
  have M0 : MadeR w (.slice none 0 0) [] w := ⟨World.ownsRow_nil _ _ _ _, Below.refl _ _⟩
  have HM0 := Lib.hid M0
  have HR := Lib.hid h1
  have H2 := Lib.hid h2
  have H5 := Lib.hid h5
  have H6 := Lib.hid h6
  have HE := Lib.hid e
  have hl : ([] : List Rc).length + n ≤ 2000 := by simp; omega
  have HL := Lib.hid hl
  clear M0 h1 h2 h5 h6 e hl
  go_enter Try.func39, Try.ntmps39
  go_wp2_with (at_builtin; refine wp_rcs (.tmp 4) (.tmp 5) rfl rfl rfl HM0.out rfl HR.out H2.out H5.out HL.out ?_; intro v' w1 m1; have HM := Lib.hid m1; clear m1)
  go_ret
  exact ⟨_, rfl, rs, HE.out, by have := HM.out; rwa [List.nil_append] at this, H6.out.below HM.out.2⟩
theorem CopyR.below {w w' w2 : World} {S : List Sl} {v : Value} (h : CopyR w S v w') (hb : Below w'.heap.size w' w2) : CopyR w S v w2 := by
  obtain ⟨rs, e, h1, h2⟩ := h
  refine ⟨rs, e, ⟨?_, on h1.2 hb⟩, h2.below hb⟩
  obtain ⟨a, b⟩ := h1.1
  refine ⟨a, ?_⟩
  rcases b with b | ⟨g, cap, cur, e1, hg, hh, rest⟩
  · exact .inl b
  · exact .inr ⟨g, cap, cur, e1, hg, (hb.block g (blk_lt hh)).trans hh, rest⟩
theorem CopyR.form {w w' : World} {S : List Sl} {v : Value} (h : CopyR w S v w') (h0 : 0 < S.length) : ∃ g c, v = .slice (some ⟨g, 0, none⟩) S.length c ∧ w.heap.size ≤ g ∧ g < w'.heap.size := by
  obtain ⟨rs, e, h1, _⟩ := h
  have hl : rs.length = S.length := by rw [← e, List.length_map]
  obtain ⟨g, c, ev, hg⟩ := h1.form (by omega)
  exact ⟨g, c, by rw [ev, hl], hg⟩
theorem CopyR.at_ {w w' : World} {S : List Sl} {g n c k : Nat} (h : CopyR w S (.slice (some ⟨g, 0, none⟩) n c) w') (hn : S.length = n) (hk : k < n) :
    (∃ x, w'.cell? ⟨g, k * 2, none⟩ = some x) ∧ (∃ x, w'.cell? ⟨g, k * 2 + 1, none⟩ = some x) ∧ w'.frozen? ⟨g, k * 2, none⟩ = false ∧ w'.frozen? ⟨g, k * 2 + 1, none⟩ = false := by
  obtain ⟨rs, e, h1, _⟩ := h
  exact h1.at_ (by rw [← hn, ← e, List.length_map]) hk
theorem Dats.cell {w : World} {rs : List Rc} {g i : Nat} {v : Value} (h : Dats w rs) (w0 : World) (hw : ∀ r ∈ rs, Bs w0 r.A (ln r.s) r.c (dat r.s)) (hb : Below w0.heap.size w0 (w.setCell ⟨g, i, none⟩ v)) : Dats (w.setCell ⟨g, i, none⟩ v) rs :=
  fun r hr => (hw r hr).below hb
/-- A slot of slots of the call's own, written: its data lie where the call began. -/
theorem CopyR.set {w w' : World} {S : List Sl} {g n c k : Nat} (s : Sl) (A2 : Option Addr) (c2 : Nat) (h : ∃ rs, rs.map (fun r => r.s) = S ∧ MadeR w (.slice (some ⟨g, 0, none⟩) n c) rs w' ∧ Dats w rs) (hn : S.length = n) (hk : k < n) (hg : w.heap.size ≤ g) (hd : Bs w A2 (ln s) c2 (dat s)) :
    ∃ rs, rs.map (fun r => r.s) = S.set k s ∧ MadeR w (.slice (some ⟨g, 0, none⟩) n c) rs ((w'.setCell ⟨g, k * 2, none⟩ (.bool s.isSome)).setCell ⟨g, k * 2 + 1, none⟩ (.slice A2 (ln s) c2)) ∧ Dats w rs := by
  obtain ⟨rs, e, h1, h2⟩ := h
  refine ⟨rs.set k ⟨s, A2, c2⟩, by rw [List.map_set, e], h1.set ⟨s, A2, c2⟩ (by rw [← hn, ← e, List.length_map]) hk hg, ?_⟩
  intro r hr
  rcases List.mem_or_eq_of_mem_set hr with hr | rfl
  · exact h2 r hr
  · exact hd
/-- The same, of data that lie where the call began. -/
def CopyO (w : World) (S : List Sl) (v : Value) (w' : World) : Prop := ∃ rs, rs.map (fun r => r.s) = S ∧ MadeR w v rs w' ∧ Dats w rs
theorem CopyO.rl {w w' : World} {S : List Sl} {v : Value} (h : CopyO w S v w') : ∃ A c, v = .slice A S.length c ∧ RL w' A S.length c S := by
  obtain ⟨rs, e, h1, h2⟩ := h
  exact h1.rl e (h2.below h1.2)
theorem CopyO.copy {w w' : World} {S : List Sl} {v : Value} (h : CopyO w S v w') : CopyR w S v w' := by
  obtain ⟨rs, e, h1, h2⟩ := h
  exact ⟨rs, e, h1, h2.below h1.2⟩
theorem CopyO.below {w w' w2 : World} {S : List Sl} {v : Value} (h : CopyO w S v w') (hb : Below w'.heap.size w' w2) : CopyO w S v w2 := by
  obtain ⟨rs, e, h1, h2⟩ := h
  obtain ⟨rs', e', h1', _⟩ := CopyR.below ⟨rs, e, h1, h2.below h1.2⟩ hb
  refine ⟨rs, e, ⟨?_, on h1.2 hb⟩, h2⟩
  obtain ⟨a, b⟩ := h1.1
  refine ⟨a, ?_⟩
  rcases b with b | ⟨g, cap, cur, e1, hg, hh, rest⟩
  · exact .inl b
  · exact .inr ⟨g, cap, cur, e1, hg, (hb.block g (blk_lt hh)).trans hh, rest⟩
/-- copied, and that the data lie where the call began. -/
theorem copied_got (A : Option Addr) (n c : Nat) (S : List Sl) (w0 w : World) (h0 : RL w0 A n c S) (hw : Below w0.heap.size w0 w) (hn : n ≤ 1000) :
    Calls Try.prog 39 #[.slice A n c] w fun e w' => ∃ v, e = .returned v ∧ CopyO w0 S v w' := by
  obtain ⟨rs, e, h1, h2, h3, h4, h5, h6⟩ := h0
  have M0 : MadeR w0 (.slice none 0 0) [] w := ⟨World.ownsRow_nil _ _ _ _, hw⟩
  have HM0 := Lib.hid M0
  have HR := Lib.hid (h1.below hw (Nat.le_refl _))
  have H2 := Lib.hid h2
  have H5 := Lib.hid h5
  have H6 := Lib.hid h6
  have HE := Lib.hid e
  have hl : ([] : List Rc).length + n ≤ 2000 := by simp; omega
  have HL := Lib.hid hl
  clear M0 h1 h2 h5 h6 e hl
  go_enter Try.func39, Try.ntmps39
  go_wp2_with (at_builtin; refine wp_rcs (.tmp 4) (.tmp 5) rfl rfl rfl HM0.out rfl HR.out H2.out H5.out HL.out ?_; intro v' w1 m1; have HM := Lib.hid m1; clear m1)
  go_ret
  exact ⟨_, rfl, rs, HE.out, by have := HM.out; rwa [List.nil_append] at this, H6.out⟩
/-- The answer of the document's Put. -/
def RefP (w : World) (x : Option (List Sl)) (k err : Int) (e : Ending) (w' : World) : Prop :=
  (match x with
  | none => e = .returned (.tuple #[.slice none 0 0, .int .i64 k, .int .i64 err])
  | some S => ∃ A c, e = .returned (.tuple #[.slice A S.length c, .int .i64 k, .int .i64 0]) ∧ RL w' A S.length c S) ∧ Below w.heap.size w w'
theorem size_over {S : List Sl} {d : List UInt8} (h : Fit S) : 512 < 2 + 2 * (upd S (freeN S) d).length + tot (upd S (freeN S) d) ↔ roomN S < needN S d.length := by
  have hle := freeN_le S
  have hr := h.room
  unfold upd needN roomN
  by_cases hk : freeN S = S.length
  · rw [if_pos hk, if_neg (by omega), List.length_append, tot_app]
    show 512 < 2 + 2 * (S.length + 1) + (tot S + (d.length + 0)) ↔ _
    omega
  · have hlt : freeN S < S.length := by omega
    rw [if_neg hk, if_pos hlt]
    obtain ⟨S1, S2, e1, e2, e3⟩ := split_at (freeN_none hlt)
    have e4 : S.set (freeN S) (some d) = S1 ++ some d :: S2 := by
      conv => lhs; rw [e1]
      rw [set_mid S1 none (some d) S2 (by rw [e2, ← e1])]
    have htm : tot S = tot S1 + ln none + tot S2 := by rw [e1, tot_mid]
    have hl : S.length = S1.length + 1 + S2.length := by rw [e1]; simp; omega
    rw [e4, tot_mid, List.length_append, List.length_cons]
    have h0 : ln (none : Sl) = 0 := rfl
    have h1 : ln (some d) = d.length := rfl
    omega
theorem upd_len {S : List Sl} {d : List UInt8} : (upd S (freeN S) d).length = if freeN S = S.length then S.length + 1 else S.length := by
  have hle := freeN_le S
  unfold upd
  by_cases hk : freeN S = S.length
  · rw [if_pos hk, if_neg (by omega)]; simp
  · rw [if_neg hk, if_pos (by omega)]; simp
theorem tot_small {S : List Sl} (h : Fit S) {d : List UInt8} (hd : d.length ≤ 255) : tot (upd S (freeN S) d) ≤ 100000 := by
  have hr := h.room
  unfold upd
  split
  · rename_i hlt
    obtain ⟨S1, S2, e1, e2, e3⟩ := split_at (List.getElem?_eq_getElem hlt)
    have e4 : S.set (freeN S) (some d) = S1 ++ some d :: S2 := by
      conv => lhs; rw [e1]
      rw [set_mid S1 _ (some d) S2 (by rw [e2, ← e1])]
    have htm : tot S = tot S1 + ln S[freeN S] + tot S2 := by
      conv => lhs; rw [e1]
      rw [tot_mid]
    rw [e4, tot_mid]
    have h1 : ln (some d) = d.length := rfl
    omega
  · rw [tot_app]
    show tot S + (d.length + 0) ≤ _
    omega
end Go.Proofs.Ytgoadmkenglglaa.Pg
