import Derived.Test.YtlkmhdbmcfblkaaGreatDoorExOwns
import Derived.Test.YtlkmhdbmcfblkaaGreatDoorRights
import Derived.Test.YtlkmhdbmcfblkaaGreatDoorIsRights
import Derived.Deep.RegionHeld3
import Derived.Deep.CutRange
import Derived.Laws.ResultCell
import Derived.Test.YtlkmhdbmcfblkaaGreatDoorExPss
import Derived.Deep.AppendLies
import Derived.Deep.RegionLaw
/- A list of trees, copied (slices.Clone): the row is the call's own, the kids' kids are the old ones. -/
namespace Go.Proofs.YtlkmhdbmcfblkaaGreatDoor.Ep
open Go.RowKit Go.Proofs.YtlkmhdbmcfblkaaGreatDoor.Mem Go.Proofs.YtlkmhdbmcfblkaaGreatDoor.Right
set_option linter.unusedVariables false

/-- The cells of a list of trees, one behind the other. -/
theorem flat_kids {w : World} {S : Nat → Prop} {A : Option Addr} : ∀ {l : List Ex} {j0 : Nat}, KidsIn w S A j0 l → ∃ css : List (List Value), css.length = l.length ∧ (∀ cs ∈ css, cs.length = 7) ∧
    (∀ (j : Nat) (x : Ex) (cs : List Value), l[j]? = some x → css[j]? = some cs → ExIn w S x cs) ∧ (∀ b o, A = some ⟨b, o, none⟩ → ∀ (m : Nat) (u : Value), css.flatten[m]? = some u → w.cell? ⟨b, o + j0 * 7 + m, none⟩ = some u) ∧ (l ≠ [] → ∃ b o, A = some ⟨b, o, none⟩)
  | [], _, _ => ⟨[], rfl, by simp, fun j x cs h => by simp at h, fun b o _ m u h => by simp at h, fun h => absurd rfl h⟩
  | x :: l, j0, h => by
    obtain ⟨⟨b, o, cs, hA, hb, hl, hc, hx⟩, hr⟩ := (kidsIn_cons _ _ _ _ _ _).1 h
    obtain ⟨css, h1, h2, h3, h4, _⟩ := flat_kids hr
    refine ⟨cs :: css, by simp [h1], fun c hcm => ?_, fun j y ds hj hd => ?_, fun b' o' hA' m u hu => ?_, fun _ => ⟨b, o, hA⟩⟩
    · rcases List.mem_cons.1 hcm with rfl | hcm
      · exact hl
      · exact h2 c hcm
    · cases j with
      | zero => simp at hj hd; subst hj hd; exact hx
      | succ j => exact h3 j y ds (by simpa using hj) (by simpa using hd)
    · rw [hA] at hA'
      injection hA' with e
      injection e with e1 e2 e3
      subst e1 e2
      rw [List.flatten_cons] at hu
      by_cases hm : m < 7
      · rw [List.getElem?_append_left (by omega)] at hu
        exact hc m u hu
      · rw [List.getElem?_append_right (by omega), hl] at hu
        have := h4 b o hA (m - 7) u hu
        rw [show o + (j0 + 1) * 7 + (m - 7) = o + j0 * 7 + m by omega] at this
        exact this
/-- A row of trees: its cells one behind the other; what the trees are made of lies in S. -/
def Flat (w : World) (S : Nat → Prop) (A : Option Addr) (l : List Ex) : Prop := ∃ css : List (List Value), css.length = l.length ∧ (∀ cs ∈ css, cs.length = 7) ∧
    (∀ (j : Nat) (x : Ex) (cs : List Value), l[j]? = some x → css[j]? = some cs → ExIn w S x cs) ∧ (∀ b o, A = some ⟨b, o, none⟩ → ∀ (m : Nat) (u : Value), css.flatten[m]? = some u → w.cell? ⟨b, o + m, none⟩ = some u) ∧ (l ≠ [] → ∃ b o, A = some ⟨b, o, none⟩)
theorem KidsIn.flat {w : World} {S : Nat → Prop} {A : Option Addr} {l : List Ex} (h : KidsIn w S A 0 l) : Flat w S A l := by
  obtain ⟨css, h1, h2, h3, h4, h5⟩ := flat_kids h
  exact ⟨css, h1, h2, h3, fun b o hA m u hu => by
    have := h4 b o hA m u hu
    rwa [show o + 0 * 7 + m = o + m by omega] at this, h5⟩
theorem Flat.below {w w' : World} {S : Nat → Prop} {A : Option Addr} {l : List Ex} (h : Flat w S A l) (hS : ∀ b, S b → b < w.heap.size) (hb : Below w.heap.size w w') : Flat w' S A l := by
  obtain ⟨css, h1, h2, h3, h4, h5⟩ := h
  refine ⟨css, h1, h2, fun j x cs hx hc => ExIn.to (fun _ h => h) (fun p hp => hb.cell (hS _ hp)) x cs (h3 j x cs hx hc), fun b o hA m u hu => ?_, h5⟩
  have := h4 b o hA m u hu
  exact (hb.cell (p := ⟨b, o + m, none⟩) (cell_lt this)).trans this
theorem elemEx : ElemK Tryz.prog 30 32 7 88 :=
  ElemK.of (z := .agg #[.int .i64 0, .int .i64 0, .int .i64 0, .int .i64 0, .string ⟨#[]⟩, .string ⟨#[]⟩, .slice none 0 0]) Tryz.underlying30 (by kernel_rfl) (by decide) (by decide)
/-- The copy: its row, and what lies there. -/
def Copy (S : Nat → Prop) (n0 : Nat) (w : World) (v : Value) (l : List Ex) : Prop :=
  ∃ A c g, v = .slice A l.length c ∧ l.length ≤ c ∧ c ≤ maxLen ∧ (A = none → c = 0) ∧ (l ≠ [] → A = some ⟨g, 0, none⟩ ∧ n0 ≤ g ∧ (∃ cur, Cel w g 32 cur ∧ l.length * 7 ≤ cur.size) ∧
    ∀ (j : Nat) (y : Ex), l[j]? = some y → ∃ ds, ds.length = 7 ∧ (∀ i u, ds[i]? = some u → w.cell? ⟨g, j * 7 + i, none⟩ = some u) ∧ ExIn w S y ds)
theorem Copy.none_ (S : Nat → Prop) (n0 : Nat) (w : World) : Copy S n0 w (.slice none 0 0) [] := ⟨none, 0, 0, rfl, Nat.zero_le _, Nat.zero_le _, fun _ => rfl, fun h => absurd rfl h⟩
theorem wp_copy {w : World} {S : Nat → Prop} {n0 : Nat} (hS : ∀ b, S b → b < n0) {l : List Ex} {A : Option Addr} {c g : Nat} {ops : Array Oper} {rest : List Oper} {o : Oper} {a : Act} {Q : Exit → Act → World → Prop} (s y : Operand)
    (hgd : o.guard = none) (ho : o.op = .call { callee := .builtin .append, args := #[s, y], argTypes := #[30, 30] })
    (hs : a.eval s = .slice (some ⟨g, 0, none⟩) 0 0) (hown : Cel w g 32 #[]) (hg : n0 ≤ g) {ad : Addr} (hA : A = some ad) (hy : a.eval y = .slice A l.length c) (hr : Flat w S A l) (hn : l.length ≤ 1000)
    (h : ∀ v' w', Copy S n0 w' v' l → Below n0 w w' → wpList Tryz.prog ops Q rest (a.put o.dst v') w') : wpList Tryz.prog ops Q (o :: rest) a w := by
  obtain ⟨css, h1, h2, h3, h4, h5⟩ := hr
  obtain ⟨i, z, ht, hi, hz, hz1, hz2, hzc, _⟩ := elemEx
  have hfl : css.flatten.length = l.length * 7 := by rw [flatk_len h2, h1]
  have hne : l = [] ∨ ∃ b o', ad = ⟨b, o', none⟩ := by
    cases l with
    | nil => exact .inl rfl
    | cons x r =>
      obtain ⟨b, o', e⟩ := h5 (by simp)
      rw [hA] at e
      injection e with e
      exact .inr ⟨b, o', e⟩
  have hO : w.ownsRow n0 32 7 (.slice (some ⟨g, 0, none⟩) 0 0) 0 [] := ⟨rfl, .inr ⟨g, 0, #[], rfl, hg, hown, Nat.le_refl _, Nat.zero_le _, rfl, rfl⟩⟩
  have hgs := hown.lt
  subst hA
  refine wpList_append_own_at _ hgd s y 30 ho n0 32 i z 7 88 ht hi hz hz1 hz2 hzc (by decide) _ 0 [] hs hO ad l.length c css.flatten hy hfl ?_ ?_ (by unfold maxLen; omega) (by omega) (by omega) fun v' w' g1 g2 _ g3 => h v' w' ?_ ?_
  · intro j u hu
    rcases hne with rfl | ⟨b, o', rfl⟩
    · simp at hfl
      have := (List.getElem?_eq_some_iff.1 hu).1
      simp [hfl] at this
    · have := h4 b o' rfl j u hu
      have e2 : (⟨b, o', none⟩ : Addr).add j = ⟨b, o' + j, none⟩ := by unfold Addr.add; split <;> simp_all
      rw [e2]
      exact this
  · intro u hu
    obtain ⟨cs, hcs, huc⟩ := List.mem_flatten.1 hu
    obtain ⟨j, hj, rfl⟩ := List.getElem_of_mem hcs
    obtain ⟨x, hx⟩ := kid_some (l := l) (j := j) (by omega)
    exact (h3 j x _ hx (List.getElem?_eq_getElem hj)).one u huc
  · rw [List.nil_append, Nat.zero_add] at g1
    have hgb : ∀ b, S b → b < w.heap.size ∧ some b ≠ (Value.slice (some ⟨g, 0, none⟩) 0 0).ownBlock := fun b hb => ⟨by have := hS b hb; omega, fun e => by
      have := hS b hb
      simp [Value.ownBlock] at e
      omega⟩
    rcases g1.2 with ⟨rfl, h0⟩ | ⟨g', cap, cur, rfl, hbg, hcel, hcap, hmx, hsz, htk⟩
    · have : l = [] := List.length_eq_zero_iff.1 h0
      subst this
      exact Copy.none_ _ _ _
    · refine ⟨_, cap, g', rfl, hcap, hmx, (fun e => by cases e), fun _ => ⟨rfl, hbg, ⟨cur, hcel, by have := hcap; rw [hsz]; omega⟩, fun j y hy => ?_⟩⟩
      have hj := (List.getElem?_eq_some_iff.1 hy).1
      have hcs : css[j]? = some css[j] := List.getElem?_eq_getElem (by omega)
      refine ⟨css[j], h2 _ (List.getElem_mem _), fun i u hu => ?_, ExIn.to (fun _ h => h) (fun p hp => World.cell?_of_block (g2.block p.block (hgb _ hp).1 (hgb _ hp).2)) y _ (h3 j y _ hy hcs)⟩
      have := g1.cells (g := g') rfl _ _ (flatk_at h2 hcs hu)
      have e2 : (⟨g', 0, none⟩ : Addr).add (j * 7 + i) = ⟨g', j * 7 + i, none⟩ := by unfold Addr.add; split <;> simp_all
      rw [e2] at this
      exact this
  · exact (Below.refl n0 w).grown g2 (by omega) (fun k hk => by
      simp [Value.ownBlock] at hk
      omega)
set_option maxRecDepth 20000 in
set_option maxHeartbeats 1000000 in
theorem copy_flat (S : Nat → Prop) (l : List Ex) (A : Option Addr) (c : Nat) (w : World) (hS : ∀ b, S b → b < w.heap.size) (h : Flat w S A l) (hA : A = none → c = 0) (hlc : l.length ≤ c) (hn : l.length ≤ 1000) :
    Calls Tryz.prog 105 #[.slice A l.length c] w fun e w' => ∃ v, e = .returned v ∧ Copy S w.heap.size w' v l ∧ Below w.heap.size w w' := by
  cases A with
  | none =>
    have hc := hA rfl
    have hl : l = [] := List.length_eq_zero_iff.1 (by omega)
    subst hc hl
    have t0 : ∀ w0 : World, (binOp .eql 30 (.slice none 0 0) (.slice none 0 0)).run Tryz.prog w0 = .ok (.bool true) w0 := fun w0 => Lib.run_eql_slice_nil w0 _ _ none 0 0 0 0 Tryz.underlying30
    go_enter Tryz.func105, Tryz.ntmps105
    go_wp2
    go_ret
    exact ⟨_, rfl, Copy.none_ _ _ _, Below.refl _ _⟩
  | some a =>
    obtain ⟨n, hln⟩ : ∃ n, l.length = n := ⟨_, rfl⟩
    have t0 : ∀ w0 : World, (binOp .eql 30 (.slice (some a) n c) (.slice none 0 0)).run Tryz.prog w0 = .ok (.bool false) w0 := fun w0 => Lib.run_eql_slice_nil w0 _ _ (some a) n c 0 0 Tryz.underlying30
    have HW := Lib.hid (show ∀ W, w.alloc (.cells #[] 32) = W → Cel W w.heap.size 32 #[] ∧ Flat W S (some a) l ∧ Below w.heap.size w W from fun W hW => by
      subst hW
      exact ⟨Cel.new w _ _ rfl, h.below hS (al (Below.refl _ _) _), al (Below.refl _ _) _⟩)
    rw [hln]
    have HN := Lib.hid hln
    have HS := Lib.hid hS
    have HNN := Lib.hid hn
    clear h hA hlc hln hn hS
    go_enter Tryz.func105, Tryz.ntmps105
    go_wp2_with (at_builtin; refine wp_copy HS.out (n0 := w.heap.size) (l := l) (.tmp 5) (.tmp 6) rfl rfl rfl (HW.out _ rfl).1 (Nat.le_refl _) rfl (by rw [HN.out]; rfl) (HW.out _ rfl).2.1 HNN.out ?_; intro v w2 hc2 hb2; have HC2 := Lib.hid hc2; have HB2 := Lib.hid ((HW.out _ rfl).2.2.trans hb2); clear hc2 hb2)
    go_ret
    exact ⟨_, rfl, HC2.out, HB2.out⟩
theorem copy_any (S : Nat → Prop) (l : List Ex) (A : Option Addr) (c : Nat) (w : World) (hS : ∀ b, S b → b < w.heap.size) (h : KidsIn w S A 0 l) (hA : A = none → c = 0) (hlc : l.length ≤ c) (hn : l.length ≤ 1000) :
    Calls Tryz.prog 105 #[.slice A l.length c] w fun e w' => ∃ v, e = .returned v ∧ Copy S w.heap.size w' v l ∧ Below w.heap.size w w' := copy_flat S l A c w hS h.flat hA hlc hn
end Go.Proofs.YtlkmhdbmcfblkaaGreatDoor.Ep
/- A tree, cloned (expr.Clone): all its rows are the call's own. -/
namespace Go.Proofs.YtlkmhdbmcfblkaaGreatDoor.Ep
open Go.RowKit Go.Proofs.YtlkmhdbmcfblkaaGreatDoor.Mem Go.Proofs.YtlkmhdbmcfblkaaGreatDoor.Right
set_option linter.unusedVariables false

theorem undrew {B : Nat} {w w1 : World} (h : Below B w.drew w1) : Below B w w1 := ⟨h.os, h.tape, h.output, h.size, h.block⟩
theorem results_one {fn : Func} {p : Tmp} {ty : TypeId} (h : fn.results = #[.cell p ty]) (tmps : Array Value) (P : Program) (w : World) :
    (results fn tmps).run P w = ((asAddr (tmps.getD p undef)).run P w).andThen fun a w₁ => (loadVar ty a).run P w₁ := by
  simp only [results, h]
  simp [Sem.run_bind, Result.andThen]
/-- A row of trees that may be written. -/
def OpenB (w : World) (b : Nat) : Prop := ∃ cur, Cel w b tE cur
theorem OpenB.lt {w : World} {b : Nat} (h : OpenB w b) : b < w.heap.size := by obtain ⟨_, h⟩ := h; exact h.lt
theorem OpenB.below {w w' : World} {b : Nat} (h : OpenB w b) (hb : Below w.heap.size w w') : OpenB w' b := by obtain ⟨c, h⟩ := h; exact ⟨c, h.below hb⟩
/-- What a clone is: its row stands in a block from n0 on, the kids' rows behind that. -/
def Cl (n0 : Nat) (w : World) (x : Ex) (cs : List Value) : Prop :=
  ∃ k o vk vn vs nm kids A c g, x = .mk k o vk vn vs nm kids ∧ cs = [.int .i64 k, .int .i64 o, .int .i64 vk, .int .i64 vn, .string (txt vs), .string (txt nm), .slice A kids.length c] ∧ kids.length ≤ c ∧ c ≤ maxLen ∧ (A = none → c = 0) ∧
    (kids ≠ [] → A = some ⟨g, 0, none⟩ ∧ n0 ≤ g ∧ OpenB w g ∧ ∀ (j : Nat) (y : Ex), kids[j]? = some y → ∃ ds, ds.length = 7 ∧ (∀ i u, ds[i]? = some u → w.cell? ⟨g, j * 7 + i, none⟩ = some u) ∧ ExIn w (fun b => g < b ∧ OpenB w b) y ds)
theorem Cl.in_ {n0 : Nat} {w : World} {x : Ex} {cs : List Value} (h : Cl n0 w x cs) : ExIn w (fun b => n0 ≤ b ∧ OpenB w b) x cs := by
  obtain ⟨k, o, vk, vn, vs, nm, kids, A, c, g, rfl, rfl, h1, h2, h3, h4⟩ := h
  refine (exIn_mk _ _ _ _ _ _ _ _ _ _).2 ⟨A, c, rfl, h1, h2, h3, KidsIn.of fun j y hy => ?_⟩
  have hne : kids ≠ [] := fun e => by subst e; simp at hy
  obtain ⟨rfl, hg, ho, hk⟩ := h4 hne
  obtain ⟨ds, hl, hc, hx⟩ := hk j y hy
  refine ⟨g, 0, ds, rfl, ⟨hg, ho⟩, hl, fun i u hu => ?_, ExIn.more hx fun b hb => ⟨by omega, hb.2⟩⟩
  rw [show 0 + (0 + j) * 7 + i = j * 7 + i by omega]
  exact hc i u hu
theorem Cl.below {n0 : Nat} {w w' : World} {x : Ex} {cs : List Value} (h : Cl n0 w x cs) (hb : Below w.heap.size w w') : Cl n0 w' x cs := by
  obtain ⟨k, o, vk, vn, vs, nm, kids, A, c, g, rfl, rfl, h1, h2, h3, h4⟩ := h
  refine ⟨k, o, vk, vn, vs, nm, kids, A, c, g, rfl, rfl, h1, h2, h3, fun hne => ?_⟩
  obtain ⟨rfl, hg, ho, hk⟩ := h4 hne
  refine ⟨rfl, hg, ho.below hb, fun j y hy => ?_⟩
  obtain ⟨ds, hl, hc, hx⟩ := hk j y hy
  exact ⟨ds, hl, fun i u hu => (hb.cell (p := ⟨g, _, none⟩) ho.lt).trans (hc i u hu), ExIn.to (fun b hb' => ⟨hb'.1, hb'.2.below hb⟩) (fun p hp => hb.cell hp.2.lt) y ds hx⟩
/-! ### Seven cells written -/
def put7 (w : World) (g q : Nat) (v0 v1 v2 v3 v4 v5 v6 : Value) : World :=
  ((((((w.setCell ⟨g, q, none⟩ v0).setCell ⟨g, q + 1, none⟩ v1).setCell ⟨g, q + 2, none⟩ v2).setCell ⟨g, q + 3, none⟩ v3).setCell ⟨g, q + 4, none⟩ v4).setCell ⟨g, q + 5, none⟩ v5).setCell ⟨g, q + 6, none⟩ v6
section
variable {w : World} {g q : Nat} {v0 v1 v2 v3 v4 v5 v6 : Value}
theorem put7_cel {t : TypeId} {cur : Array Value} (h : Cel w g t cur) (hq : q + 7 ≤ cur.size) : ∃ cur', Cel (put7 w g q v0 v1 v2 v3 v4 v5 v6) g t cur' ∧ cur'.size = cur.size ∧
    (∀ i u, [v0, v1, v2, v3, v4, v5, v6][i]? = some u → cur'[q + i]? = some u) ∧ ∀ m, (m < q ∨ q + 7 ≤ m) → cur'[m]? = cur[m]? := by
  refine ⟨_, ((((((h.set q v0).set (q + 1) v1).set (q + 2) v2).set (q + 3) v3).set (q + 4) v4).set (q + 5) v5).set (q + 6) v6, by simp, fun i u hu => ?_, fun m hm => ?_⟩
  · have hi := (List.getElem?_eq_some_iff.1 hu).1
    simp only [List.length_cons, List.length_nil] at hi
    match i, hi, hu with
    | 0, _, hu => simp at hu; subst hu; simp [Array.getElem?_setIfInBounds]; omega
    | 1, _, hu => simp at hu; subst hu; simp [Array.getElem?_setIfInBounds]; omega
    | 2, _, hu => simp at hu; subst hu; simp [Array.getElem?_setIfInBounds]; omega
    | 3, _, hu => simp at hu; subst hu; simp [Array.getElem?_setIfInBounds]; omega
    | 4, _, hu => simp at hu; subst hu; simp [Array.getElem?_setIfInBounds]; omega
    | 5, _, hu => simp at hu; subst hu; simp [Array.getElem?_setIfInBounds]; omega
    | 6, _, hu => simp at hu; subst hu; simp [Array.getElem?_setIfInBounds]; omega
  · simp only [Array.getElem?_setIfInBounds]
    rw [if_neg (by omega), if_neg (by omega), if_neg (by omega), if_neg (by omega), if_neg (by omega), if_neg (by omega), if_neg (by omega)]
theorem put7_oth {b : Nat} (hb : b ≠ g) : (put7 w g q v0 v1 v2 v3 v4 v5 v6).heap[b]? = w.heap[b]? := by
  unfold put7
  simp only [Below.heap_setCell _ ⟨g, _, none⟩ _ b hb]
theorem put7_size : (put7 w g q v0 v1 v2 v3 v4 v5 v6).heap.size = w.heap.size := by
  unfold put7; simp
theorem Cel.put_other {B : Nat} {t : TypeId} {cur : Array Value} (h : Cel w B t cur) (hB : B ≠ g) : Cel (put7 w g q v0 v1 v2 v3 v4 v5 v6) B t cur := (put7_oth hB).trans h
theorem put7_below {n0 : Nat} {a : World} (h : Below n0 a w) (hg : n0 ≤ g) : Below n0 a (put7 w g q v0 v1 v2 v3 v4 v5 v6) :=
  ((((((h.setCell (p := ⟨g, _, none⟩) hg v0).setCell (p := ⟨g, _, none⟩) hg v1).setCell (p := ⟨g, _, none⟩) hg v2).setCell (p := ⟨g, _, none⟩) hg v3).setCell (p := ⟨g, _, none⟩) hg v4).setCell (p := ⟨g, _, none⟩) hg v5).setCell (p := ⟨g, _, none⟩) hg v6
end
/-! ### On the way -/
/-- The first j kids are clones, the others the old ones. -/
def Mid (n0 g : Nat) (l : List Ex) (j : Nat) (w : World) : Prop :=
  (∃ cur, Cel w g tE cur ∧ l.length * 7 ≤ cur.size) ∧ ∀ (i : Nat) (y : Ex), l[i]? = some y → ∃ ds, ds.length = 7 ∧ (∀ m u, ds[m]? = some u → w.cell? ⟨g, i * 7 + m, none⟩ = some u) ∧
    (i < j → ExIn w (fun b => g < b ∧ OpenB w b) y ds) ∧ (j ≤ i → ExIn w (fun b => b < n0) y ds)
theorem Mid.below {n0 g j : Nat} {l : List Ex} {w w' : World} (h : Mid n0 g l j w) (hn : n0 ≤ w.heap.size) (hb : Below w.heap.size w w') : Mid n0 g l j w' := by
  obtain ⟨⟨cur, hc, hs⟩, h2⟩ := h
  refine ⟨⟨cur, hc.below hb, hs⟩, fun i y hy => ?_⟩
  obtain ⟨ds, hl, hcell, h3, h4⟩ := h2 i y hy
  exact ⟨ds, hl, fun m u hu => (hb.cell (p := ⟨g, _, none⟩) hc.lt).trans (hcell m u hu), fun hi => ExIn.to (fun b hb' => ⟨hb'.1, hb'.2.below hb⟩) (fun p hp => hb.cell hp.2.lt) y ds (h3 hi), fun hi => ExIn.to (fun _ h => h) (fun p hp => hb.cell (by omega)) y ds (h4 hi)⟩
theorem Mid.put {n0 g j : Nat} {l : List Ex} {w : World} {y : Ex} {v0 v1 v2 v3 v4 v5 v6 : Value} (h : Mid n0 g l j w) (hg : n0 ≤ g) (hy : l[j]? = some y) (hx : ExIn w (fun b => g < b ∧ OpenB w b) y [v0, v1, v2, v3, v4, v5, v6]) :
    Mid n0 g l (j + 1) (put7 w g (j * 7) v0 v1 v2 v3 v4 v5 v6) := by
  obtain ⟨⟨cur, hc, hs⟩, h2⟩ := h
  have hj := (List.getElem?_eq_some_iff.1 hy).1
  obtain ⟨cur', g1, g2, g3, g4⟩ := put7_cel (v0 := v0) (v1 := v1) (v2 := v2) (v3 := v3) (v4 := v4) (v5 := v5) (v6 := v6) (q := j * 7) hc (by omega)
  have hop : ∀ b, (g < b ∧ OpenB w b) → (g < b ∧ OpenB (put7 w g (j * 7) v0 v1 v2 v3 v4 v5 v6) b) := fun b ⟨hb, cb, hcb⟩ => ⟨hb, cb, (put7_oth (by omega)).trans hcb⟩
  have hcell : ∀ p : Addr, p.block ≠ g → (put7 w g (j * 7) v0 v1 v2 v3 v4 v5 v6).cell? p = w.cell? p := fun p hp => World.cell?_of_block (put7_oth hp)
  refine ⟨⟨cur', g1, by omega⟩, fun i z hz => ?_⟩
  by_cases hij : i = j
  · subst hij
    rw [hy] at hz
    injection hz with hz
    subst hz
    exact ⟨_, rfl, fun m u hu => by rw [g1.at_]; exact g3 m u hu, fun _ => ExIn.to hop (fun p hp => hcell p (by have := hp.1; omega)) y _ hx, fun hi => by omega⟩
  · obtain ⟨ds, hl, hce, h3, h4⟩ := h2 i z hz
    refine ⟨ds, hl, fun m u hu => ?_, fun hi => ExIn.to hop (fun p hp => hcell p (by have := hp.1; omega)) z ds (h3 (by omega)), fun hi => ExIn.to (fun _ h => h) (fun p hp => hcell p (by omega)) z ds (h4 (by omega))⟩
    have hm := (List.getElem?_eq_some_iff.1 hu).1
    rw [g1.at_, g4 _ (by omega), ← hc.at_]
    exact hce m u hu
end Go.Proofs.YtlkmhdbmcfblkaaGreatDoor.Ep
/- A pile of trees of the call's own: its last ones, as a row; without these; its last one written anew; one more, in a region that draws. -/
namespace Go.Proofs.YtlkmhdbmcfblkaaGreatDoor.Ep
open Go.RowKit Go.Proofs.YtlkmhdbmcfblkaaGreatDoor.Mem Go.Proofs.YtlkmhdbmcfblkaaGreatDoor.Right Go.Proofs.YtlkmhdbmcfblkaaGreatDoor.Lx Go.Deep
set_option linter.unusedVariables false

section
variable {w w' : World} {base g n c : Nat} {t : TypeId} {S : Nat → Prop} {l ks : List Ex} {x y : Ex} {A : Option Addr}
/-- Where it is, if it is not empty. -/
theorem OwnT.block (h : OwnT w base t S (.slice A n c) l) (hn : 0 < n) : ∃ g, A = some ⟨g, 0, none⟩ ∧ base ≤ g ∧ g < w.heap.size ∧ n = l.length ∧ n ≤ c ∧ ∃ cur, Cel w g t cur ∧ cur.size = c * 7 := by
  obtain ⟨A', c', e, _⟩ := h.form
  obtain ⟨css, _, _, ho, _⟩ := h
  rcases ho.2 with ⟨e1, _⟩ | ⟨g, cap, cur, e1, hb, hc, h1, h2, h3, _⟩
  · injection e1 with _ e1 _; omega
  · injection e1 with e1 e2 e3
    subst e1 e2 e3
    refine ⟨g, rfl, hb, (blk_lt hc), by rw [List.length_map], h1, cur, hc, h3⟩
/-- Its last ones, as a row. -/
theorem OwnT.flat (h : OwnT w base t S (.slice (some ⟨g, 0, none⟩) n c) (l ++ ks)) {q : Nat} (hq : q = l.length * 7) : Flat w S (some ⟨g, q, none⟩) ks := by
  subst hq
  obtain ⟨css, hl, h7, ho, hx⟩ := h
  rw [List.length_map, List.length_append] at hl
  refine ⟨css.drop l.length, by rw [List.length_drop]; omega, fun cs hc => h7 cs (List.mem_of_mem_drop hc), fun j z cs hz hc => ?_, fun b o e m u hu => ?_, fun _ => ⟨_, _, rfl⟩⟩
  · rw [List.getElem?_drop] at hc
    refine hx (l.length + j) (exDt z) cs ?_ hc
    rw [List.getElem?_map, List.getElem?_append_right (by omega), show l.length + j - l.length = j by omega, hz]; rfl
  · injection e with e
    injection e with e1 e2 _
    subst e1 e2
    have hcut : css.flatten[l.length * 7 + m]? = some u := by
      have e : css.flatten = (css.take l.length).flatten ++ (css.drop l.length).flatten := by rw [← List.flatten_append, List.take_append_drop]
      have e2 : (css.take l.length).flatten.length = l.length * 7 := by
        rw [flatk_len (k := 7) fun cs hc => h7 cs (List.mem_of_mem_take hc), List.length_take, Nat.min_eq_left (by omega)]
      rw [e, List.getElem?_append_right (by omega), e2, show l.length * 7 + m - l.length * 7 = m by omega]
      exact hu
    have := ho.cells (g := g) rfl _ _ hcut
    have e2 : (⟨g, 0, none⟩ : Addr).add (l.length * 7 + m) = ⟨g, l.length * 7 + m, none⟩ := by unfold Addr.add; split <;> simp_all
    rw [e2] at this
    exact this
/-- Without them. -/
theorem OwnT.front (h : OwnT w base t S (.slice A n c) (l ++ ks)) : OwnT w base t S (.slice A l.length c) l := by
  obtain ⟨css, hl, h7, ho, hx⟩ := h
  rw [List.length_map, List.length_append] at hl
  have hlen : (css.take l.length).flatten.length = l.length * 7 := by
    rw [flatk_len (k := 7) fun cs hc => h7 cs (List.mem_of_mem_take hc), List.length_take, Nat.min_eq_left (by omega)]
  have hfl : css.flatten.take (l.length * 7) = (css.take l.length).flatten := by
    have e : css.flatten = (css.take l.length).flatten ++ (css.drop l.length).flatten := by rw [← List.flatten_append, List.take_append_drop]
    rw [e, List.take_append_of_le_length (by omega), List.take_of_length_le (by omega)]
  refine ⟨css.take l.length, by rw [List.length_take, List.length_map]; omega, fun cs hc => h7 cs (List.mem_of_mem_take hc), ⟨by rw [hlen, List.length_map], ?_⟩, fun j d cs hd hc => ?_⟩
  · rcases ho.2 with ⟨e, h0⟩ | ⟨g, cap, cur, e, hb, hc, h1, h2, h3, h4⟩
    · injection e with e1 e2 e3
      subst e1 e2 e3
      rw [List.length_map, List.length_append] at h0
      have : l.length = 0 := by omega
      left
      rw [List.length_map]
      exact ⟨by rw [this], this⟩
    · injection e with e1 e2 e3
      subst e1 e2 e3
      right
      rw [List.length_map, List.length_append] at h1 h4
      refine ⟨g, c, cur, by rw [List.length_map], hb, hc, by rw [List.length_map]; omega, h2, h3, ?_⟩
      rw [← hfl, ← h4, List.take_take, List.length_map, Nat.min_eq_left (by omega)]
  · have hj : j < l.length := by
      have := (List.getElem?_eq_some_iff.1 hd).1
      rwa [List.length_map] at this
    rw [List.getElem?_take, if_pos hj] at hc
    refine hx j d cs ?_ hc
    rw [List.map_append, List.getElem?_append_left (by rw [List.length_map]; exact hj)]
    exact hd
/-- Its last one written anew. -/
theorem OwnT.put_last {v0 v1 v2 v3 v4 v5 v6 : Value} (h : OwnT w base t S (.slice (some ⟨g, 0, none⟩) n c) (l ++ [y])) {q : Nat} (hq : q = l.length * 7) (hS : ∀ b, S b → b ≠ g) (hx : ExIn w S x [v0, v1, v2, v3, v4, v5, v6]) :
    OwnT (put7 w g q v0 v1 v2 v3 v4 v5 v6) base t S (.slice (some ⟨g, 0, none⟩) n c) (l ++ [x]) := by
  subst hq
  obtain ⟨css, hl, h7, ho, hd⟩ := h
  rw [List.length_map, List.length_append, List.length_singleton] at hl
  have hfar : ∀ p : Addr, S p.block → (put7 w g (l.length * 7) v0 v1 v2 v3 v4 v5 v6).cell? p = w.cell? p := fun p hp => World.cell?_of_block (put7_oth (hS _ hp))
  have hlen : (css.take l.length).flatten.length = l.length * 7 := by
    rw [flatk_len (k := 7) fun cs hc => h7 cs (List.mem_of_mem_take hc), List.length_take, Nat.min_eq_left (by omega)]
  have hN : ((l ++ [y]).map exDt).length = l.length + 1 := by simp
  have hN' : ((l ++ [x]).map exDt).length = l.length + 1 := by simp
  rw [hN] at ho
  have hfl : (css.take l.length ++ [[v0, v1, v2, v3, v4, v5, v6]]).flatten = (css.take l.length).flatten ++ [v0, v1, v2, v3, v4, v5, v6] := by simp
  refine ⟨css.take l.length ++ [[v0, v1, v2, v3, v4, v5, v6]], by simp; omega, fun cs hc => ?_, ?_, fun j d cs he hc => ?_⟩
  · rcases List.mem_append.1 hc with hc | hc
    · exact h7 cs (List.mem_of_mem_take hc)
    · rw [List.mem_singleton.1 hc]; rfl
  · rw [hN', hfl]
    refine ⟨by rw [List.length_append, hlen]; simp; omega, ?_⟩
    rcases ho.2 with ⟨e, _⟩ | ⟨g', cap, cur, e, hb, hc, h1, h2, h3, h4⟩
    · cases e
    injection e with e1 e2 e3
    injection e1 with e1
    injection e1 with e1 _ _
    subst e1 e2 e3
    obtain ⟨cur', k1, k2, k3, k4⟩ := put7_cel (v0 := v0) (v1 := v1) (v2 := v2) (v3 := v3) (v4 := v4) (v5 := v5) (v6 := v6) (q := l.length * 7) hc (by omega)
    refine .inr ⟨g, c, cur', rfl, hb, k1, h1, h2, by omega, ?_⟩
    apply List.ext_getElem?
    intro i
    rw [List.getElem?_take]
    by_cases hi : i < l.length * 7
    · rw [if_pos (by omega), List.getElem?_append_left (by omega), Array.getElem?_toList, k4 i (.inl hi)]
      have e1 : css.flatten[i]? = cur[i]? := by
        rw [← h4, List.getElem?_take, if_pos (by omega), Array.getElem?_toList]
      have e2 : css.flatten = (css.take l.length).flatten ++ (css.drop l.length).flatten := by rw [← List.flatten_append, List.take_append_drop]
      rw [← e1, e2, List.getElem?_append_left (by omega)]
    · by_cases hi2 : i < l.length * 7 + 7
      · rw [if_pos (by omega), List.getElem?_append_right (by omega), hlen, Array.getElem?_toList]
        obtain ⟨u, hu⟩ : ∃ u, [v0, v1, v2, v3, v4, v5, v6][i - l.length * 7]? = some u := ⟨_, List.getElem?_eq_getElem (by simp; omega)⟩
        have := k3 _ u hu
        rw [show l.length * 7 + (i - l.length * 7) = i by omega] at this
        rw [this, hu]
      · rw [if_neg (by omega), List.getElem?_append_right (by omega), hlen, List.getElem?_eq_none (by simp; omega)]
  · rcases Nat.lt_or_ge j l.length with hj | hj
    · rw [List.getElem?_append_left (by rw [List.length_take]; omega), List.getElem?_take, if_pos hj] at hc
      rw [List.map_append, List.getElem?_append_left (by rw [List.length_map]; exact hj)] at he
      refine DtIn.to (fun _ h => h) hfar d cs (hd j d cs ?_ hc)
      rw [List.map_append, List.getElem?_append_left (by rw [List.length_map]; exact hj)]
      exact he
    · have hj0 : j = l.length := by
        have := (List.getElem?_eq_some_iff.1 he).1
        rw [hN'] at this; omega
      subst hj0
      rw [List.getElem?_append_right (by rw [List.length_take]; omega), List.length_take, Nat.min_eq_left (by omega), Nat.sub_self] at hc
      rw [List.map_append, List.getElem?_append_right (by rw [List.length_map]; exact Nat.le_refl _), List.length_map, Nat.sub_self] at he
      simp at he hc
      subst he hc
      exact DtIn.to (fun _ h => h) hfar _ _ hx
end
/-- One tree behind the pile, in a region that draws. -/
theorem step_tree {P : Program} {w1 : World} {v : Value} {l : List Ex} {x : Ex} {cs : List Value} {S : Nat → Prop} {base g n : Nat} {t te tc : TypeId} {bytes : Nat} (E : ElemK P t te 7 bytes) (hown : OwnT w1 base te S v l) (hx : ExIn w1 S x cs)
    {fr : Nat × Nat} {ops : Array Oper} {o : Oper} {a : Act} {K : Act → World → Prop} {Q : Exit → Act → World → Prop} {F : Prop} (s y : Operand)
    (hgd : o.guard = none) (ho : o.op = .call { callee := .builtin .append, args := #[s, y], argTypes := #[t, t] })
    (hs : a.eval s = v) (hy : a.eval y = .slice (some ⟨g, 0, none⟩) 1 1) (hrow : w1.heap[g]? = some (.cells cs.toArray tc fr)) (hS : ∀ b, S b → b < w1.heap.size ∧ some b ≠ v.ownBlock) (hn : l.length = n) (hb : (n + 1) * bytes ≤ 140737488355328) (hm : n + 1 ≤ maxLen) (hB : base ≤ w1.heap.size)
    (k : ∀ g' cap w', OwnT w' base te S (.slice (some ⟨g', 0, none⟩) (n + 1) cap) (l ++ [x]) → w1.grownBy w' v.ownBlock → (v.ownBlock = some g' ∨ g' = w1.heap.size) → g' < w'.heap.size → K (a.put o.dst (.slice (some ⟨g', 0, none⟩) (n + 1) cap)) w') :
    if Region.wanted o (yielded ops a.tmps) = true then Oper.wp P o a w1 K Q else F := by
  subst hn
  obtain ⟨i, z, ht, hi, hz, hz1, hz2, hzc, _⟩ := E
  obtain ⟨css, hl, h7, hrow1, hcs⟩ := hown
  rw [List.length_map] at hl
  have h1 : w1.ownsRow base te 7 v l.length css.flatten := by
    rw [List.length_map] at hrow1; exact hrow1
  refine step_append_lies _ hgd s y t ho base te i z 7 bytes ht hi hz hz1 hz2 hzc (by decide) v l.length css.flatten hs h1 ⟨g, 0, none⟩ 1 1 cs hy (by rw [hx.len]) (by have := World.news_of_block hrow; simpa using this) hx.one (by decide) hm hb hB w1.heap.size rfl fun g' cap w' g1 g2 g3 g4 => ?_
  refine k g' cap w' ⟨css ++ [cs], by simp [hl], fun c hc => ?_, ?_, fun j d cs' he hc' => ?_⟩ g2 g3 g4
  · rcases List.mem_append.1 hc with hc | hc
    · exact h7 c hc
    · rw [List.mem_singleton.1 hc]; exact hx.len
  · rw [show ((l ++ [x]).map exDt).length = l.length + 1 by simp, show (css ++ [cs]).flatten = css.flatten ++ cs by simp]
    exact g1
  · have hfar : ∀ p : Addr, S p.block → w'.cell? p = w1.cell? p := fun p hp => World.cell?_of_block (g2.block p.block (hS _ hp).1 (hS _ hp).2)
    rw [List.map_append] at he
    rcases Nat.lt_or_ge j l.length with hj | hj
    · rw [List.getElem?_append_left (by rw [List.length_map]; exact hj)] at he
      rw [List.getElem?_append_left (by omega)] at hc'
      exact DtIn.to (fun _ h => h) hfar d cs' (hcs j d cs' he hc')
    · rw [List.getElem?_append_right (by rw [List.length_map]; exact hj), List.length_map] at he
      rw [List.getElem?_append_right (by omega), hl] at hc'
      have hj0 : j - l.length = 0 := by
        have := (List.getElem?_eq_some_iff.1 he).1
        simp at this; omega
      rw [hj0] at he hc'
      simp at he hc'
      subst he hc'
      exact DtIn.to (fun _ h => h) hfar _ _ hx
end Go.Proofs.YtlkmhdbmcfblkaaGreatDoor.Ep
