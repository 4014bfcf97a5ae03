/- Lists of trees that a call makes: one more behind; what they read as. A list of trees, copied (slices.Clone): the row is the call's own, the kids' kids are the  The columns that a tree names, each once, in the text's order; its greatest parameter. A tree is gone through by one function that is handed another one: how high it is. How high a tree is (Height): the program's answer. -/
import Derived.Test.YtbdippgamlknbaaGreatDoorKs05
import Derived.Test.YtbdippgamlknbaaGreatDoorKs21
import Derived.Test.YtbdippgamlknbaaGreatDoorKs06
import Derived.Test.YtbdippgamlknbaaGreatDoorKs01
import Derived.Lib.MinMax
import Derived.Test.YtbdippgamlknbaaGreatDoorKs20
namespace Go.Proofs.YtbdippgamlknbaaGreatDoor.Ep
open Go.RowKit Go.Proofs.YtbdippgamlknbaaGreatDoor.Mem Go.Deep
set_option linter.unusedVariables false
/-- A list of trees in a slice of the call's own; the trees' kids lie in blocks of S. -/
def OwnT (w : World) (base : Nat) (tE : TypeId) (S : Nat → Prop) (v : Value) (l : List Ex) : Prop := OwnD w base tE 7 S v (l.map exDt)
section
variable {w w' : World} {base : Nat} {tE : TypeId} {S S' : Nat → Prop} {v : Value} {l : List Ex}
theorem OwnT.nil (w : World) (base : Nat) (tE : TypeId) (S : Nat → Prop) : OwnT w base tE S (.slice none 0 0) [] := OwnD.nil _ _ _ _ _
theorem OwnT.made (w : World) (base : Nat) (tE : TypeId) (S : Nat → Prop) (cur : Array Value) (cap : Nat) (hb : base ≤ w.heap.size) (hm : cap ≤ maxLen) (hs : cur.size = cap * 7) :
    OwnT (w.alloc (.cells cur tE)) base tE S (.slice (some ⟨w.heap.size, 0, none⟩) 0 cap) [] := OwnD.made _ _ _ _ _ _ _ hb hm hs
theorem OwnT.lt (h : OwnT w base tE S v l) : ∀ k, v.ownBlock = some k → base ≤ k ∧ k < w.heap.size := OwnD.lt h
theorem OwnT.form (h : OwnT w base tE S v l) : ∃ A c, v = .slice A l.length c ∧ (A = none → c = 0) ∧ l.length ≤ c ∧ c ≤ maxLen := by
  have := OwnD.form h
  rw [List.length_map] at this
  exact this
theorem OwnT.kept {row : Option Nat} (h : OwnT w base tE S v l) (hg : w.grownBy w' row) (hne : v.ownBlock = none ∨ v.ownBlock ≠ row) (hS : ∀ b, S b → b < w.heap.size ∧ some b ≠ row) : OwnT w' base tE S v l := OwnD.kept h hg hne hS
theorem OwnT.more (h : OwnT w base tE S v l) (hS : ∀ b, S b → S' b) : OwnT w base tE S' v l := OwnD.more h hS
theorem OwnT.kids {A : Option Addr} {n c : Nat} (h : OwnT w base tE S (.slice A n c) l) : KidsIn w (fun b => S b ∨ (Value.slice A n c).ownBlock = some b) A 0 l := OwnD.row (by decide) h
/-- As the kids of a tree. -/
theorem OwnT.tree (h : OwnT w base tE S v l) (k o vk vn : Int) (vs nm : List UInt8) : ExIn w (fun b => S b ∨ v.ownBlock = some b) (.mk k o vk vn vs nm l) [.int .i64 k, .int .i64 o, .int .i64 vk, .int .i64 vn, .string (txt vs), .string (txt nm), v] := by
  obtain ⟨A, c, rfl, h1, h2, h3⟩ := h.form
  exact (exIn_mk _ _ _ _ _ _ _ _ _ _).2 ⟨A, c, rfl, h2, h3, h1, h.kids⟩
end
end Go.Proofs.YtbdippgamlknbaaGreatDoor.Ep
namespace Go.Proofs.YtbdippgamlknbaaGreatDoor.Ep
open Go.RowKit Go.Proofs.YtbdippgamlknbaaGreatDoor.Mem Go.Proofs.YtbdippgamlknbaaGreatDoor.Right
set_option linter.unusedVariables false
/-- The cells of a list of trees, one behind the other. -/
theorem flat_kids {w : World} {S : Nat → Prop} {A : Option Addr} : ∀ {l : List Ex} {j0 : Nat}, KidsIn w S A j0 l → ∃ css : List (List Value), css.length = l.length ∧ (∀ cs ∈ css, cs.length = 7) ∧
    (∀ (j : Nat) (x : Ex) (cs : List Value), l[j]? = some x → css[j]? = some cs → ExIn w S x cs) ∧ (∀ b o, A = some ⟨b, o, none⟩ → ∀ (m : Nat) (u : Value), css.flatten[m]? = some u → w.cell? ⟨b, o + j0 * 7 + m, none⟩ = some u) ∧ (l ≠ [] → ∃ b o, A = some ⟨b, o, none⟩)
  | [], _, _ => ⟨[], rfl, by simp, fun j x cs h => by simp at h, fun b o _ m u h => by simp at h, fun h => absurd rfl h⟩
  | x :: l, j0, h => by
    obtain ⟨⟨b, o, cs, hA, hb, hl, hc, hx⟩, hr⟩ := (kidsIn_cons _ _ _ _ _ _).1 h
    obtain ⟨css, h1, h2, h3, h4, _⟩ := flat_kids hr
    refine ⟨cs :: css, by simp [h1], fun c hcm => ?_, fun j y ds hj hd => ?_, fun b' o' hA' m u hu => ?_, fun _ => ⟨b, o, hA⟩⟩
    · rcases List.mem_cons.1 hcm with rfl | hcm
      · exact hl
      · exact h2 c hcm
    · cases j with
      | zero => simp at hj hd; subst hj hd; exact hx
      | succ j => exact h3 j y ds (by simpa using hj) (by simpa using hd)
    · rw [hA] at hA'
      injection hA' with e
      injection e with e1 e2 e3
      subst e1 e2
      rw [List.flatten_cons] at hu
      by_cases hm : m < 7
      · rw [List.getElem?_append_left (by omega)] at hu
        exact hc m u hu
      · rw [List.getElem?_append_right (by omega), hl] at hu
        have := h4 b o hA (m - 7) u hu
        rw [show o + (j0 + 1) * 7 + (m - 7) = o + j0 * 7 + m by omega] at this
        exact this
/-- A row of trees: its cells one behind the other; what the trees are made of lies in S. -/
def Flat (w : World) (S : Nat → Prop) (A : Option Addr) (l : List Ex) : Prop := ∃ css : List (List Value), css.length = l.length ∧ (∀ cs ∈ css, cs.length = 7) ∧
    (∀ (j : Nat) (x : Ex) (cs : List Value), l[j]? = some x → css[j]? = some cs → ExIn w S x cs) ∧ (∀ b o, A = some ⟨b, o, none⟩ → ∀ (m : Nat) (u : Value), css.flatten[m]? = some u → w.cell? ⟨b, o + m, none⟩ = some u) ∧ (l ≠ [] → ∃ b o, A = some ⟨b, o, none⟩)
theorem KidsIn.flat {w : World} {S : Nat → Prop} {A : Option Addr} {l : List Ex} (h : KidsIn w S A 0 l) : Flat w S A l := by
  obtain ⟨css, h1, h2, h3, h4, h5⟩ := flat_kids h
  exact ⟨css, h1, h2, h3, fun b o hA m u hu => by
    have := h4 b o hA m u hu
    rwa [show o + 0 * 7 + m = o + m by omega] at this, h5⟩
theorem Flat.below {w w' : World} {S : Nat → Prop} {A : Option Addr} {l : List Ex} (h : Flat w S A l) (hS : ∀ b, S b → b < w.heap.size) (hb : Below w.heap.size w w') : Flat w' S A l := by
  obtain ⟨css, h1, h2, h3, h4, h5⟩ := h
  refine ⟨css, h1, h2, fun j x cs hx hc => ExIn.to (fun _ h => h) (fun p hp => hb.cell (hS _ hp)) x cs (h3 j x cs hx hc), fun b o hA m u hu => ?_, h5⟩
  have := h4 b o hA m u hu
  exact (hb.cell (p := ⟨b, o + m, none⟩) (cell_lt this)).trans this
theorem elemEx : ElemK Tryz.prog 24 26 7 88 :=
  ElemK.of (z := .agg #[.int .i64 0, .int .i64 0, .int .i64 0, .int .i64 0, .string ⟨#[]⟩, .string ⟨#[]⟩, .slice none 0 0]) Tryz.underlying24 (by kernel_rfl) (by decide) (by decide)
/-- The copy: its row, and what lies there. -/
def Copy (S : Nat → Prop) (n0 : Nat) (w : World) (v : Value) (l : List Ex) : Prop :=
  ∃ A c g, v = .slice A l.length c ∧ l.length ≤ c ∧ c ≤ maxLen ∧ (A = none → c = 0) ∧ (l ≠ [] → A = some ⟨g, 0, none⟩ ∧ n0 ≤ g ∧ (∃ cur, Cel w g 26 cur ∧ l.length * 7 ≤ cur.size) ∧
    ∀ (j : Nat) (y : Ex), l[j]? = some y → ∃ ds, ds.length = 7 ∧ (∀ i u, ds[i]? = some u → w.cell? ⟨g, j * 7 + i, none⟩ = some u) ∧ ExIn w S y ds)
theorem Copy.none_ (S : Nat → Prop) (n0 : Nat) (w : World) : Copy S n0 w (.slice none 0 0) [] := ⟨none, 0, 0, rfl, Nat.zero_le _, Nat.zero_le _, fun _ => rfl, fun h => absurd rfl h⟩
theorem wp_copy {w : World} {S : Nat → Prop} {n0 : Nat} (hS : ∀ b, S b → b < n0) {l : List Ex} {A : Option Addr} {c g : Nat} {ops : Array Oper} {rest : List Oper} {o : Oper} {a : Act} {Q : Exit → Act → World → Prop} (s y : Operand)
    (hgd : o.guard = none) (ho : o.op = .call { callee := .builtin .append, args := #[s, y], argTypes := #[24, 24] })
    (hs : a.eval s = .slice (some ⟨g, 0, none⟩) 0 0) (hown : Cel w g 26 #[]) (hg : n0 ≤ g) {ad : Addr} (hA : A = some ad) (hy : a.eval y = .slice A l.length c) (hr : Flat w S A l) (hn : l.length ≤ 1000)
    (h : ∀ v' w', Copy S n0 w' v' l → Below n0 w w' → wpList Tryz.prog ops Q rest (a.put o.dst v') w') : wpList Tryz.prog ops Q (o :: rest) a w := by
  obtain ⟨css, h1, h2, h3, h4, h5⟩ := hr
  obtain ⟨i, z, ht, hi, hz, hz1, hz2, hzc, _⟩ := elemEx
  have hfl : css.flatten.length = l.length * 7 := by rw [flatk_len h2, h1]
  have hne : l = [] ∨ ∃ b o', ad = ⟨b, o', none⟩ := by
    cases l with
    | nil => exact .inl rfl
    | cons x r =>
      obtain ⟨b, o', e⟩ := h5 (by simp)
      rw [hA] at e
      injection e with e
      exact .inr ⟨b, o', e⟩
  have hO : w.ownsRow n0 26 7 (.slice (some ⟨g, 0, none⟩) 0 0) 0 [] := ⟨rfl, .inr ⟨g, 0, #[], rfl, hg, hown, Nat.le_refl _, Nat.zero_le _, rfl, rfl⟩⟩
  have hgs := hown.lt
  subst hA
  refine wpList_append_own_at _ hgd s y 24 ho n0 26 i z 7 88 ht hi hz hz1 hz2 hzc (by decide) _ 0 [] hs hO ad l.length c css.flatten hy hfl ?_ ?_ (by unfold maxLen; omega) (by omega) (by omega) fun v' w' g1 g2 _ g3 => h v' w' ?_ ?_
  · intro j u hu
    rcases hne with rfl | ⟨b, o', rfl⟩
    · simp at hfl
      have := (List.getElem?_eq_some_iff.1 hu).1
      simp [hfl] at this
    · have := h4 b o' rfl j u hu
      have e2 : (⟨b, o', none⟩ : Addr).add j = ⟨b, o' + j, none⟩ := by unfold Addr.add; split <;> simp_all
      rw [e2]
      exact this
  · intro u hu
    obtain ⟨cs, hcs, huc⟩ := List.mem_flatten.1 hu
    obtain ⟨j, hj, rfl⟩ := List.getElem_of_mem hcs
    obtain ⟨x, hx⟩ := kid_some (l := l) (j := j) (by omega)
    exact (h3 j x _ hx (List.getElem?_eq_getElem hj)).one u huc
  · rw [List.nil_append, Nat.zero_add] at g1
    have hgb : ∀ b, S b → b < w.heap.size ∧ some b ≠ (Value.slice (some ⟨g, 0, none⟩) 0 0).ownBlock := fun b hb => ⟨by have := hS b hb; omega, fun e => by
      have := hS b hb
      simp [Value.ownBlock] at e
      omega⟩
    rcases g1.2 with ⟨rfl, h0⟩ | ⟨g', cap, cur, rfl, hbg, hcel, hcap, hmx, hsz, htk⟩
    · have : l = [] := List.length_eq_zero_iff.1 h0
      subst this
      exact Copy.none_ _ _ _
    · refine ⟨_, cap, g', rfl, hcap, hmx, (fun e => by cases e), fun _ => ⟨rfl, hbg, ⟨cur, hcel, by have := hcap; rw [hsz]; omega⟩, fun j y hy => ?_⟩⟩
      have hj := (List.getElem?_eq_some_iff.1 hy).1
      have hcs : css[j]? = some css[j] := List.getElem?_eq_getElem (by omega)
      refine ⟨css[j], h2 _ (List.getElem_mem _), fun i u hu => ?_, ExIn.to (fun _ h => h) (fun p hp => World.cell?_of_block (g2.block p.block (hgb _ hp).1 (hgb _ hp).2)) y _ (h3 j y _ hy hcs)⟩
      have := g1.cells (g := g') rfl _ _ (flatk_at h2 hcs hu)
      have e2 : (⟨g', 0, none⟩ : Addr).add (j * 7 + i) = ⟨g', j * 7 + i, none⟩ := by unfold Addr.add; split <;> simp_all
      rw [e2] at this
      exact this
  · exact (Below.refl n0 w).grown g2 (by omega) (fun k hk => by
      simp [Value.ownBlock] at hk
      omega)
set_option maxRecDepth 20000 in
set_option maxHeartbeats 1000000 in
theorem copy_flat (S : Nat → Prop) (l : List Ex) (A : Option Addr) (c : Nat) (w : World) (hS : ∀ b, S b → b < w.heap.size) (h : Flat w S A l) (hA : A = none → c = 0) (hlc : l.length ≤ c) (hn : l.length ≤ 1000) :
    Calls Tryz.prog 71 #[.slice A l.length c] w fun e w' => ∃ v, e = .returned v ∧ Copy S w.heap.size w' v l ∧ Below w.heap.size w w' := by
  cases A with
  | none =>
    have hc := hA rfl
    have hl : l = [] := List.length_eq_zero_iff.1 (by omega)
    subst hc hl
    have t0 : ∀ w0 : World, (binOp .eql 24 (.slice none 0 0) (.slice none 0 0)).run Tryz.prog w0 = .ok (.bool true) w0 := fun w0 => Lib.run_eql_slice_nil w0 _ _ none 0 0 0 0 Tryz.underlying24
    go_enter Tryz.func71, Tryz.ntmps71
    go_wp2
    go_ret
    exact ⟨_, rfl, Copy.none_ _ _ _, Below.refl _ _⟩
  | some a =>
    obtain ⟨n, hln⟩ : ∃ n, l.length = n := ⟨_, rfl⟩
    have t0 : ∀ w0 : World, (binOp .eql 24 (.slice (some a) n c) (.slice none 0 0)).run Tryz.prog w0 = .ok (.bool false) w0 := fun w0 => Lib.run_eql_slice_nil w0 _ _ (some a) n c 0 0 Tryz.underlying24
    have HW := Lib.hid (show ∀ W, w.alloc (.cells #[] 26) = W → Cel W w.heap.size 26 #[] ∧ Flat W S (some a) l ∧ Below w.heap.size w W from fun W hW => by
      subst hW
      exact ⟨Cel.new w _ _ rfl, h.below hS (al (Below.refl _ _) _), al (Below.refl _ _) _⟩)
    rw [hln]
    have HN := Lib.hid hln
    have HS := Lib.hid hS
    have HNN := Lib.hid hn
    clear h hA hlc hln hn hS
    go_enter Tryz.func71, Tryz.ntmps71
    go_wp2_with (at_builtin; refine wp_copy HS.out (n0 := w.heap.size) (l := l) (.tmp 5) (.tmp 6) rfl rfl rfl (HW.out _ rfl).1 (Nat.le_refl _) rfl (by rw [HN.out]; rfl) (HW.out _ rfl).2.1 HNN.out ?_; intro v w2 hc2 hb2; have HC2 := Lib.hid hc2; have HB2 := Lib.hid ((HW.out _ rfl).2.2.trans hb2); clear hc2 hb2)
    go_ret
    exact ⟨_, rfl, HC2.out, HB2.out⟩
theorem copy_any (S : Nat → Prop) (l : List Ex) (A : Option Addr) (c : Nat) (w : World) (hS : ∀ b, S b → b < w.heap.size) (h : KidsIn w S A 0 l) (hA : A = none → c = 0) (hlc : l.length ≤ c) (hn : l.length ≤ 1000) :
    Calls Tryz.prog 71 #[.slice A l.length c] w fun e w' => ∃ v, e = .returned v ∧ Copy S w.heap.size w' v l ∧ Below w.heap.size w w' := copy_flat S l A c w hS h.flat hA hlc hn
end Go.Proofs.YtbdippgamlknbaaGreatDoor.Ep
namespace Go.Proofs.YtbdippgamlknbaaGreatDoor.Tk
open Go.Proofs.YtbdippgamlknbaaGreatDoor.Ep
set_option linter.unusedVariables false
def ownN (k : Int) (nm : List UInt8) : List (List UInt8) := if k = 2 then [nm] else []
mutual
/-- The columns, one behind the other. -/
def colsE : Ex → List (List UInt8)
  | .mk k _ _ _ _ nm kids => ownN k nm ++ colsL kids
def colsL : List Ex → List (List UInt8)
  | [] => []
  | x :: l => colsE x ++ colsL l
end
mutual
/-- The greatest parameter, from n on. -/
def parE (n : Int) : Ex → Int
  | .mk k o _ _ _ _ kids => parL (if k = 3 then max n o else n) kids
def parL (n : Int) : List Ex → Int
  | [] => n
  | x :: l => parL (parE n x) l
end
theorem parE_mk (n k o vk vn : Int) (vs nm : List UInt8) (kids : List Ex) : parE n (.mk k o vk vn vs nm kids) = parL (if k = 3 then max n o else n) kids := by rw [parE]
theorem parL_app : ∀ (l r : List Ex) (n : Int), parL n (l ++ r) = parL (parL n l) r
  | [], r, n => by rw [parL]; rfl
  | x :: l, r, n => by rw [List.cons_append, parL, parL, parL_app l r]
theorem take_par {l : List Ex} {j : Nat} {x : Ex} (h : l[j]? = some x) (n : Int) : parE (parL n (l.take j)) x = parL n (l.take (j + 1)) := by
  rw [List.take_add_one, h, parL_app]
  show _ = parL _ [x]
  rw [parL, parL]
end Go.Proofs.YtbdippgamlknbaaGreatDoor.Tk
namespace Go.Proofs.YtbdippgamlknbaaGreatDoor.Ep
open Go.RowKit Go.Proofs.YtbdippgamlknbaaGreatDoor.Mem Go.Proofs.YtbdippgamlknbaaGreatDoor.Right
set_option linter.unusedVariables false
set_option maxHeartbeats 1000000 in
theorem seen_any (k o vk vn : Int) (vs nm : ByteArray) (A : Option Addr) (n c d m p M : Nat) (w : World) (h : Cel w p tI #[.int .i64 (m : Int)]) (hM : max m d = M) :
    Calls Tryz.prog 74 #[exV k o vk vn vs nm A n c, .int .i64 (d : Int), .pointer (some ⟨p, 0, none⟩)] w fun e w' => e = .returned (.bool true) ∧ Cel w' p tI #[.int .i64 (M : Int)] ∧ Oth p w w' := by
  have h1 := h.alloc (.cells #[.int .i64 k, .int .i64 o, .int .i64 vk, .int .i64 vn, .string vs, .string nm, .slice A n c] tE)
  have c0 : (w.alloc (.cells #[.int .i64 k, .int .i64 o, .int .i64 vk, .int .i64 vn, .string vs, .string nm, .slice A n c] 26)).cell? ⟨p, 0, none⟩ = some (.int .i64 (m : Int)) := h1.at_ 0
  have f0 : (w.alloc (.cells #[.int .i64 k, .int .i64 o, .int .i64 vk, .int .i64 vn, .string vs, .string nm, .slice A n c] 26)).frozen? ⟨p, 0, none⟩ = false := h1.open_ 0
  have hm : max (m : Int) (d : Int) = (M : Int) := by omega
  have H := Lib.hid h1
  have HL := Lib.hid h.lt
  clear h1 h hM
  go_enter Tryz.func74, Tryz.ntmps74
  go_wp2
  go_ret
  exact ⟨rfl, H.out.set 0 _, ((Oth.refl p w).alloc (Nat.le_of_lt HL.out) _).set 0 _⟩
set_option maxHeartbeats 4000000 in
theorem walkH_any (p : Nat) : ∀ (e : Ex) (cs : List Value) (d m : Nat) (w : World), ExAt w p e cs → Cel w p tI #[.int .i64 (m : Int)] → d + size e ≤ 1000000 → m ≤ 1000000 →
    Calls Tryz.prog 67 #[.agg cs.toArray, .int .i64 (d : Int), .func (.func 74) #[] #[.pointer (some ⟨p, 0, none⟩)]] w fun x w' => x = .returned (.bool true) ∧ Cel w' p tI #[.int .i64 ((max m (d + hgt e - 1) : Nat) : Int)] ∧ Oth p w w' := by
  refine Ex.byKids fun k o vk vn vs nm kids ih cs d m w h hc hs hm => ?_
  obtain ⟨A, kn, c, rfl, hkn, -, -, -, hk⟩ := ex_open h
  rw [size] at hs
  rw [hgt_mk]
  have hpw := hc.lt
  have hb0 := (Oth.refl p w).alloc (Nat.le_of_lt hpw) (.cells #[.int .i64 k, .int .i64 o, .int .i64 vk, .int .i64 vn, .string (txt vs), .string (txt nm), .slice A kn c] tE)
  have hd : d ≤ 1000000 := by omega
  obtain ⟨M, hM⟩ : ∃ M, max m d = M := ⟨_, rfl⟩
  have HV := Lib.hid (seen_any k o vk vn (txt vs) (txt nm) A kn c d m p M (w.alloc (.cells #[.int .i64 k, .int .i64 o, .int .i64 vk, .int .i64 vn, .string (txt vs), .string (txt nm), .slice A kn c] tE)) (hc.alloc _) hM)
  have hbox : Cel (w.alloc (.cells #[.int .i64 k, .int .i64 o, .int .i64 vk, .int .i64 vn, .string (txt vs), .string (txt nm), .slice A kn c] tE)) w.heap.size tE #[.int .i64 k, .int .i64 o, .int .i64 vk, .int .i64 vn, .string (txt vs), .string (txt nm), .slice A kn c] := Cel.new w tE _ rfl
  have HX := Lib.hid (fun W (hW : Oth p (w.alloc (.cells #[.int .i64 k, .int .i64 o, .int .i64 vk, .int .i64 vn, .string (txt vs), .string (txt nm), .slice A kn c] tE)) W) => (show W.cell? ⟨w.heap.size, 6, none⟩ = some (.slice A kn c) from (hW.cel (by omega) hbox).at_ 6))
  have HB0 := Lib.hid hb0
  have HK := Lib.hid hk
  have HN := Lib.hid hkn
  have HSZ := Lib.hid hs
  have HM := Lib.hid hM
  have hkm : kn ≤ 1000000 := by have := sizeL_len kids; omega
  have hM6 : M ≤ 1000000 := by omega
  clear hk h hkn hs hb0 hpw hM hc hbox
  go_enter Tryz.func67, Tryz.ntmps67
  go_wp2_with (go_at_call 74; (with_reducible refine HV.out.mono ?_); rintro e' w1 ⟨rfl, hc1, hb1⟩; have HC1 := Lib.hid hc1; have x6 := HX.out _ hb1; have HB1 := Lib.hid (HB0.out.trans hb1); clear hc1 hb1)
  clear x6
  go_loopw [17] (fun i wr => ∃ (j x : Nat), j ≤ kn ∧ i = .int .i64 (j : Int) ∧ Hid (x = max M (d + hgtL (kids.take j))) ∧ Hid (Cel wr p tI #[.int .i64 (x : Int)]) ∧ Hid (Oth p w wr)) (fun i _ => kn + 1 - (intOf i).toNat)
  case atStart => exact ⟨0, M, Nat.zero_le _, rfl, Lib.hid (by rw [List.take_zero, hgtL]; have := HM.out; omega), HC1, HB1⟩
  case round =>
    obtain ⟨j, x, hj, rfl, HL, HC, HB⟩ := hrel
    by_cases hlt : j < kn
    · obtain ⟨y, hy⟩ := kid_some (l := kids) (j := j) (by have := HN.out; omega)
      obtain ⟨k', o', vk', vn', vs', nm', ks', A', n', c', b, q, e, rfl, hb, hn', c0, c1, c2, c3, c4, c5, c6, hin⟩ := kid_at HK.out hy
      have hsy : size y ≤ sizeL kids := sizeL_mem (kid_mem hy)
      have hgy : hgtL kids ≤ sizeL kids := hgtL_size kids
      have hgt' : hgtL (kids.take j) ≤ hgtL kids := by
        have := hgtL_app (kids.take j) (kids.drop j)
        rw [List.take_append_drop] at this
        omega
      have hx6 : x ≤ 1000000 := by have := HL.out; have := HSZ.out; omega
      obtain ⟨x2, hx2⟩ : ∃ x2, max x (d + 1 + hgt y - 1) = x2 := ⟨_, rfl⟩
      have HI := Lib.hid (fun W (hW : Oth p w W) (hWc : Cel W p tI #[.int .i64 (x : Int)]) => (show Calls Tryz.prog 67 #[exV k' o' vk' vn' (txt vs') (txt nm') A' n' c', .int .i64 ((d : Int) + 1), .func (.func 74) #[] #[.pointer (some ⟨p, 0, none⟩)]] W fun x w' => x = .returned (.bool true) ∧ Cel w' p tI #[.int .i64 (x2 : Int)] ∧ Oth p W w' from by
        rw [← hx2]
        exact ih y (kid_mem hy) _ (d + 1) x W (ExAt.below hin hW.1) hWc (by have := HSZ.out; omega) hx6))
      have HT := Lib.hid (show x2 = max M (d + hgtL (kids.take (j + 1))) by rw [List.take_add_one, hy, ← hx2, HL.out]; have := hgtL_snoc (kids.take j) y; have := hgt_pos y; simp only [Option.toList_some]; omega)
      have c0 := (HB.out.1.cell hb).trans c0
      have c1 := (HB.out.1.cell hb).trans c1
      have c2 := (HB.out.1.cell hb).trans c2
      have c3 := (HB.out.1.cell hb).trans c3
      have c4 := (HB.out.1.cell hb).trans c4
      have c5 := (HB.out.1.cell hb).trans c5
      have c6 := (HB.out.1.cell hb).trans c6
      have hpr := HC.out.lt
      have HBk := Lib.hid (HB.out.alloc (Nat.le_of_lt hpr) (.cells #[.int .i64 k', .int .i64 o', .int .i64 vk', .int .i64 vn', .string (txt vs'), .string (txt nm'), .slice A' n' c'] tE))
      have HCk := Lib.hid (HC.out.alloc (.cells #[.int .i64 k', .int .i64 o', .int .i64 vk', .int .i64 vn', .string (txt vs'), .string (txt nm'), .slice A' n' c'] tE))
      have tl : decide ((j : Int) < (kn : Int)) = true := decide_eq_true (by omega)
      clear hin hn' e hy hx2 hsy hgy hgt' hpr
      go_wp2_with (go_at_call 67; (with_reducible refine (HI.out _ HBk.out HCk.out).mono ?_); rintro e' w2 ⟨rfl, hc2, hb2⟩; have HC2 := Lib.hid hc2; have HB2 := Lib.hid (HBk.out.trans hb2); clear hc2 hb2)
      go_roundw
      case rel => exact ⟨j + 1, x2, by omega, by go_num, HT, HC2, HB2⟩
      case measure => simp [intOf]; omega
    · have tl : decide ((j : Int) < (kn : Int)) = false := decide_eq_false (by omega)
      have hd2 : kids.take j = kids := List.take_of_length_le (by have := HN.out; omega)
      rw [hd2] at HL
      have hx3 := Lib.hid (show max m (d + (hgtL kids + 1) - 1) = x by have := HL.out; have := HM.out; omega)
      go_wp2
      go_ret
      exact ⟨rfl, by rw [hx3.out]; exact HC.out, HB.out⟩
end Go.Proofs.YtbdippgamlknbaaGreatDoor.Ep
namespace Go.Proofs.YtbdippgamlknbaaGreatDoor.Ep
open Go.RowKit Go.Proofs.YtbdippgamlknbaaGreatDoor.Mem Go.Proofs.YtbdippgamlknbaaGreatDoor.Right
set_option linter.unusedVariables false
set_option maxHeartbeats 2000000 in
theorem height_any (e : Ex) (cs : List Value) (w : World) (h : ExAt w w.heap.size e cs) (hz : size e ≤ 100000) :
    Calls Tryz.prog 39 #[.agg cs.toArray] w fun x w' => x = .returned (.int .i64 (hgt e : Int)) ∧ Below w.heap.size w w' := by
  have hcs := h
  obtain ⟨k, o, vk, vn, vs, nm, kids⟩ := e
  obtain ⟨A, kn, c, rfl, -⟩ := ex_open h
  obtain ⟨e, he⟩ : ∃ e, Ex.mk k o vk vn vs nm kids = e := ⟨_, rfl⟩
  rw [he] at hcs hz ⊢
  clear he h
  have hb : Below w.heap.size w ((w.alloc (.cells #[.int .i64 k, .int .i64 o, .int .i64 vk, .int .i64 vn, .string (txt vs), .string (txt nm), .slice A kn c] tE)).alloc (.cells #[.int .i64 0] tI)) := al (al (Below.refl _ _) _) _
  have hp : Cel ((w.alloc (.cells #[.int .i64 k, .int .i64 o, .int .i64 vk, .int .i64 vn, .string (txt vs), .string (txt nm), .slice A kn c] tE)).alloc (.cells #[.int .i64 0] tI)) (w.heap.size + 1) tI #[.int .i64 ((0 : Nat) : Int)] := Cel.new _ tI _ (by simp)
  have hx := walkH_any (w.heap.size + 1) e _ 1 0 _ (ExIn.to (fun b hb' => by omega) (fun q hq' => hb.cell hq') e _ hcs) hp (by omega) (by omega)
  rw [show max 0 (1 + hgt e - 1) = hgt e by omega] at hx
  rw [show ((1 : Nat) : Int) = 1 from rfl] at hx
  have HX := Lib.hid hx
  have HB := Lib.hid hb
  clear hcs hb hp hx hz
  go_enter Tryz.func39, Tryz.ntmps39
  go_wp2_with (go_at_call 67; (with_reducible refine HX.out.mono ?_); rintro e' w2 ⟨rfl, hc2, hb2⟩; have z0 := hc2.at_ 0; have HB2 := Lib.hid (HB.out.trans (hb2.1.mono (by omega))); clear hc2 hb2)
  go_ret
  exact ⟨rfl, HB2.out⟩
end Go.Proofs.YtbdippgamlknbaaGreatDoor.Ep
