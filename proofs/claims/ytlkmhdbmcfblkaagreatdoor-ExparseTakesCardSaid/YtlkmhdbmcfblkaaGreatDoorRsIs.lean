/- The document's parser: a sum, and what may be asked of it. -/
import Derived.Test.YtlkmhdbmcfblkaaGreatDoorRsLists
namespace Go.Proofs.YtlkmhdbmcfblkaaGreatDoor.Ep
open Go.RowKit Go.Proofs.YtlkmhdbmcfblkaaGreatDoor.Mem Go.Proofs.YtlkmhdbmcfblkaaGreatDoor.Right Go.Proofs.YtlkmhdbmcfblkaaGreatDoor.Lx Go.Deep
set_option linter.unusedVariables false

/-- A row of trees behind a list of the call's own. -/
theorem wp_trees {w : World} {ops : Array Oper} {rest : List Oper} {o : Oper} {a : Act} {Q : Exit → Act → World → Prop} (base : Nat) (s y : Operand)
    (hgd : o.guard = none) (ho : o.op = .call { callee := .builtin .append, args := #[s, y], argTypes := #[30, 30] })
    {v : Value} {l ks : List Ex} {S : Nat → Prop} {g2 n2 c2 : Nat} (hs : a.eval s = v) (hown : OwnT w base tE S v l) (hy : a.eval y = .slice (some ⟨g2, 0, none⟩) n2 c2) (hr : Flat w S (some ⟨g2, 0, none⟩) ks) (hn2 : n2 = ks.length)
    (hS : ∀ b, S b → b < w.heap.size ∧ some b ≠ v.ownBlock) (hB : base ≤ w.heap.size) (hsz : l.length + ks.length ≤ 1000)
    (h : ∀ v' w', OwnT w' base tE S v' (l ++ ks) → w.grownBy w' v.ownBlock → (v'.ownBlock = v.ownBlock ∨ v'.ownBlock = some w.heap.size) → wpList Tryz.prog ops Q rest (a.put o.dst v') w') : wpList Tryz.prog ops Q (o :: rest) a w := by
  subst hn2
  obtain ⟨css2, h1, h2, h3, h4, h5⟩ := hr
  obtain ⟨i, z, ht, hi, hz, hz1, hz2, hzc, _⟩ := elemEx
  obtain ⟨css, hl, h7, hrow, hcs⟩ := hown
  rw [List.length_map] at hl hrow
  have hfl : css2.flatten.length = ks.length * 7 := by rw [flatk_len h2, h1]
  refine wpList_append_own_at _ hgd s y 30 ho base tE i z 7 88 ht hi hz hz1 hz2 hzc (by decide) v l.length css.flatten hs hrow ⟨g2, 0, none⟩ ks.length c2 css2.flatten hy hfl ?_ ?_ (by unfold maxLen; omega) (by omega) hB fun v' w' g1 gg2 _ g3 => h v' w' ⟨css ++ css2, by simp [hl, h1], fun c hc => ?_, by simpa [Nat.add_mul] using g1, fun j d cs hd hc => ?_⟩ gg2 g3
  · intro j u hu
    have := h4 g2 0 rfl j u hu
    have e2 : (⟨g2, 0, none⟩ : Addr).add j = ⟨g2, 0 + j, none⟩ := by unfold Addr.add; split <;> simp_all
    rw [e2]
    exact this
  · intro u hu
    obtain ⟨cs, hcs', huc⟩ := List.mem_flatten.1 hu
    obtain ⟨j, hj, rfl⟩ := List.getElem_of_mem hcs'
    obtain ⟨x, hx⟩ := kid_some (l := ks) (j := j) (by omega)
    exact (h3 j x _ hx (List.getElem?_eq_getElem hj)).one u huc
  · rcases List.mem_append.1 hc with hc | hc
    · exact h7 c hc
    · exact h2 c hc
  · have hfar : ∀ p : Addr, S p.block → w'.cell? p = w.cell? p := fun p hp => World.cell?_of_block (gg2.block p.block (hS _ hp).1 (hS _ hp).2)
    rw [List.map_append] at hd
    rcases Nat.lt_or_ge j l.length with hj | hj
    · rw [List.getElem?_append_left (by rw [List.length_map]; exact hj)] at hd
      rw [List.getElem?_append_left (by omega)] at hc
      exact DtIn.to (fun _ h => h) hfar d cs (hcs j d cs hd hc)
    · rw [List.getElem?_append_right (by rw [List.length_map]; exact hj), List.length_map, List.getElem?_map] at hd
      rw [List.getElem?_append_right (by omega), hl] at hc
      obtain ⟨x, hx, rfl⟩ := Option.map_eq_some_iff.1 hd
      exact ExIn.to (fun _ h => h) hfar x cs (h3 _ x cs hx hc)
theorem GotR.map {α β : Type} {R : Res α} {x : α} {q : Nat} {e : Int} (h : GotR R x q e) (f : α → β) : GotR (R.bind fun y s => .ok (f y) s) (f x) q e := by
  cases R with
  | ok y s => obtain ⟨rfl, rfl, rfl⟩ := h; exact ⟨rfl, rfl, rfl⟩
  | err c s => exact h
/-- A tree of one kid is made, then the result's cell is written. -/
theorem gives_one {w a : World} {B q : Nat} {tk : Value} {e : Int} {R : Res Ex} {x : Ex} {k o vk vn : Int} {vs nm : ByteArray} {A1 : Option Addr} {m1 c1 : Nat} (hB : B < w.heap.size) (hlt : w.heap.size < a.heap.size) (hx : ExIn a (fun b => w.heap.size < b ∧ b < a.heap.size) x [.int .i64 k, .int .i64 o, .int .i64 vk, .int .i64 vn, .string vs, .string nm, .slice A1 m1 c1]) (hz : Rz a B tk q e) (u : Int) (hg : GotR R (un u x) q e) (ho : Oth B w a) :
    Gives w B tk R (.returned (.agg #[.int .i64 4, .int .i64 u, .int .i64 0, .int .i64 0, .string ⟨#[]⟩, .string ⟨#[]⟩, .slice (some ⟨a.heap.size, 0, none⟩) 1 1])) (put7 (a.alloc (.cells #[.int .i64 k, .int .i64 o, .int .i64 vk, .int .i64 vn, .string vs, .string nm, .slice A1 m1 c1] tE)) w.heap.size 0 (.int .i64 4) (.int .i64 u) (.int .i64 0) (.int .i64 0) (.string ⟨#[]⟩) (.string ⟨#[]⟩) (.slice (some ⟨a.heap.size, 0, none⟩) 1 1)) := by
  have hb := al (Below.refl a.heap.size a) (.cells #[.int .i64 k, .int .i64 o, .int .i64 vk, .int .i64 vn, .string vs, .string nm, .slice A1 m1 c1] tE)
  have e1 : (a.alloc (.cells #[.int .i64 k, .int .i64 o, .int .i64 vk, .int .i64 vn, .string vs, .string nm, .slice A1 m1 c1] tE)).heap.size = a.heap.size + 1 := by simp
  refine gives_put (a := a.alloc (.cells #[.int .i64 k, .int .i64 o, .int .i64 vk, .int .i64 vn, .string vs, .string nm, .slice A1 m1 c1] tE)) (R := R) (x := un u x) hB ((tree_one hx (fun b hb => hb.2) 4 u).more fun b hb' => ?_) (hz.below hb) hg (ho.trans (Oth.of hb (by omega)))
  rcases hb' with hb' | hb'
  · exact ⟨hb'.1, by omega⟩
  · exact ⟨by omega, by omega⟩
theorem gives_two {w a : World} {B q : Nat} {tk : Value} {e : Int} {R : Res Ex} {x y : Ex} {k o vk vn : Int} {vs nm : ByteArray} {A1 : Option Addr} {m1 c1 : Nat} {k' o' vk' vn' : Int} {vs' nm' : ByteArray} {A2 : Option Addr} {m2 c2 : Nat} (hB : B < w.heap.size) (hlt : w.heap.size < a.heap.size) (hx : ExIn a (fun b => w.heap.size < b ∧ b < a.heap.size) x [.int .i64 k, .int .i64 o, .int .i64 vk, .int .i64 vn, .string vs, .string nm, .slice A1 m1 c1]) (hy : ExIn a (fun b => w.heap.size < b ∧ b < a.heap.size) y [.int .i64 k', .int .i64 o', .int .i64 vk', .int .i64 vn', .string vs', .string nm', .slice A2 m2 c2]) (hz : Rz a B tk q e) (u : Int) (hg : GotR R (bin u x y) q e) (ho : Oth B w a) :
    Gives w B tk R (.returned (.agg #[.int .i64 5, .int .i64 u, .int .i64 0, .int .i64 0, .string ⟨#[]⟩, .string ⟨#[]⟩, .slice (some ⟨a.heap.size, 0, none⟩) 2 2])) (put7 (a.alloc (.cells #[.int .i64 k, .int .i64 o, .int .i64 vk, .int .i64 vn, .string vs, .string nm, .slice A1 m1 c1, .int .i64 k', .int .i64 o', .int .i64 vk', .int .i64 vn', .string vs', .string nm', .slice A2 m2 c2] tE)) w.heap.size 0 (.int .i64 5) (.int .i64 u) (.int .i64 0) (.int .i64 0) (.string ⟨#[]⟩) (.string ⟨#[]⟩) (.slice (some ⟨a.heap.size, 0, none⟩) 2 2)) := by
  have hb := al (Below.refl a.heap.size a) (.cells #[.int .i64 k, .int .i64 o, .int .i64 vk, .int .i64 vn, .string vs, .string nm, .slice A1 m1 c1, .int .i64 k', .int .i64 o', .int .i64 vk', .int .i64 vn', .string vs', .string nm', .slice A2 m2 c2] tE)
  have e1 : (a.alloc (.cells #[.int .i64 k, .int .i64 o, .int .i64 vk, .int .i64 vn, .string vs, .string nm, .slice A1 m1 c1, .int .i64 k', .int .i64 o', .int .i64 vk', .int .i64 vn', .string vs', .string nm', .slice A2 m2 c2] tE)).heap.size = a.heap.size + 1 := by simp
  refine gives_put (a := a.alloc (.cells #[.int .i64 k, .int .i64 o, .int .i64 vk, .int .i64 vn, .string vs, .string nm, .slice A1 m1 c1, .int .i64 k', .int .i64 o', .int .i64 vk', .int .i64 vn', .string vs', .string nm', .slice A2 m2 c2] tE)) (R := R) (x := bin u x y) hB ((tree_two hx hy (fun b hb => hb.2) 5 u).more fun b hb' => ?_) (hz.below hb) hg (ho.trans (Oth.of hb (by omega)))
  rcases hb' with hb' | hb'
  · exact ⟨hb'.1, by omega⟩
  · exact ⟨by omega, by omega⟩
/-- On the way: the result's cell is zero, the first tree lies in block b3. -/
structure Rmid (w W : World) (B b3 : Nat) (x : Ex) (vs7 : List Value) : Prop where
  c3 : Cel W b3 tE vs7.toArray
  c2 : Cel W w.heap.size tE zC.toArray
  tree : ExIn W (fun b => w.heap.size < b ∧ b < W.heap.size) x vs7
  oth : Oth B w W
  lt : w.heap.size < b3 ∧ b3 < W.heap.size
theorem Rmid.next {w W W' : World} {B b3 : Nat} {x : Ex} {vs7 : List Value} (h : Rmid w W B b3 x vs7) (hB : B < w.heap.size) (ho : Oth B W W') : Rmid w W' B b3 x vs7 :=
  ⟨ho.cel (by have := h.lt; omega) h.c3, ho.cel (by omega) h.c2, ExIn.to (fun b hb => ⟨hb.1, Nat.lt_of_lt_of_le hb.2 ho.size⟩) (fun p hp => World.cell?_of_block (ho.2 p.block hp.2 (by have := hp.1; omega))) _ _ h.tree, h.oth.trans ho, h.lt.1, Nat.lt_of_lt_of_le h.lt.2 ho.size⟩
theorem Flat.more {w : World} {S S' : Nat → Prop} {A : Option Addr} {l : List Ex} (h : Flat w S A l) (hS : ∀ b, S b → S' b) : Flat w S' A l := by
  obtain ⟨css, h1, h2, h3, h4, h5⟩ := h
  exact ⟨css, h1, h2, fun j x cs hx hc => (h3 j x cs hx hc).more hS, h4, h5⟩
/-- What the append of a list behind the first tree wants, and what it leaves. -/
theorem in_ready {w W w5 : World} {B b3 g m c q : Nat} {e : Int} {tk : Value} {x : Ex} {ys : List Ex} {k o vk vn : Int} {vs nm : ByteArray} {A1 : Option Addr} {m1 c1 : Nat} (hB : B < w.heap.size) (hM : Rmid w W B b3 x [.int .i64 k, .int .i64 o, .int .i64 vk, .int .i64 vn, .string vs, .string nm, .slice A1 m1 c1]) (hm : m = ys.length) (hl : OwnL W w5 (.slice (some ⟨g, 0, none⟩) m c) ys) (ho : Oth B W w5) (hz : Rz w5 B tk q e) :
    ∃ S : Nat → Prop, OwnT (w5.alloc (.cells #[.int .i64 k, .int .i64 o, .int .i64 vk, .int .i64 vn, .string vs, .string nm, .slice A1 m1 c1] tE)) w.heap.size tE S (.slice (some ⟨w5.heap.size, 0, none⟩) 1 1) [x] ∧ Flat (w5.alloc (.cells #[.int .i64 k, .int .i64 o, .int .i64 vk, .int .i64 vn, .string vs, .string nm, .slice A1 m1 c1] tE)) S (some ⟨g, 0, none⟩) ys ∧ (∀ b, S b → b < (w5.alloc (.cells #[.int .i64 k, .int .i64 o, .int .i64 vk, .int .i64 vn, .string vs, .string nm, .slice A1 m1 c1] tE)).heap.size ∧ some b ≠ (Value.slice (some ⟨w5.heap.size, 0, none⟩) 1 1).ownBlock) ∧
      (∀ b, S b → w.heap.size < b ∧ b < w5.heap.size) := by
  have hM5 := hM.next hB ho
  obtain ⟨S2, h1, h2⟩ := hl
  have hsw := hM.oth.size
  have hlt := hM.lt
  have hb := al (Below.refl w5.heap.size w5) (.cells #[.int .i64 k, .int .i64 o, .int .i64 vk, .int .i64 vn, .string vs, .string nm, .slice A1 m1 c1] tE)
  have e1 : (w5.alloc (.cells #[.int .i64 k, .int .i64 o, .int .i64 vk, .int .i64 vn, .string vs, .string nm, .slice A1 m1 c1] tE)).heap.size = w5.heap.size + 1 := by simp
  refine ⟨fun b => w.heap.size < b ∧ b < w5.heap.size, OwnT.built (css := [[.int .i64 k, .int .i64 o, .int .i64 vk, .int .i64 vn, .string vs, .string nm, .slice A1 m1 c1]]) (l := [x]) rfl rfl (fun j z cs hj hc => by
    match j with
    | 0 => simp at hj hc; subst hj hc; exact hM5.tree
    | j + 1 => simp at hj) (fun b hb => hb.2) (by have := hM5.oth.size; omega) (by show 1 ≤ maxLen; unfold maxLen; omega) rfl, ?_, fun b hb => ⟨by omega, fun e => ?_⟩, fun b hb => hb⟩
  · have hf := OwnT.flat (l := []) (ks := ys) (q := 0) (by rw [List.nil_append]; exact h1) rfl
    exact (Flat.below hf (fun b hb => (h2 b hb).2.1) hb).more fun b hb => ⟨by have := (h2 b hb).1; omega, (h2 b hb).2.1⟩
  · have : b = w5.heap.size := Option.some.inj e
    omega
theorem gives_in {w w5 w7 : World} {B q m' c' : Nat} {A' : Option Addr} {tk : Value} {e : Int} {R : Res Ex} {x : Ex} {ys : List Ex} {S : Nat → Prop} {k o vk vn : Int} {vs nm : ByteArray} {A1 : Option Addr} {m1 c1 : Nat} (hB : B < w.heap.size) (hlt : w.heap.size < w5.heap.size) (h1 : OwnT w7 w.heap.size tE S (.slice A' m' c') ([x] ++ ys)) (h2 : (w5.alloc (.cells #[.int .i64 k, .int .i64 o, .int .i64 vk, .int .i64 vn, .string vs, .string nm, .slice A1 m1 c1] tE)).grownBy w7 (some w5.heap.size))
    (h3 : (Value.slice A' m' c').ownBlock = some w5.heap.size ∨ (Value.slice A' m' c').ownBlock = some (w5.alloc (.cells #[.int .i64 k, .int .i64 o, .int .i64 vk, .int .i64 vn, .string vs, .string nm, .slice A1 m1 c1] tE)).heap.size) (hS : ∀ b, S b → w.heap.size < b ∧ b < w5.heap.size) (hz : Rz w5 B tk q e) (hg : GotR R (inn (x :: ys)) q e) (ho : Oth B w w5) :
    Gives w B tk R (.returned (.agg #[.int .i64 6, .int .i64 0, .int .i64 0, .int .i64 0, .string ⟨#[]⟩, .string ⟨#[]⟩, .slice A' m' c'])) (put7 w7 w.heap.size 0 (.int .i64 6) (.int .i64 0) (.int .i64 0) (.int .i64 0) (.string ⟨#[]⟩) (.string ⟨#[]⟩) (.slice A' m' c')) := by
  have hb := al (Below.refl w5.heap.size w5) (.cells #[.int .i64 k, .int .i64 o, .int .i64 vk, .int .i64 vn, .string vs, .string nm, .slice A1 m1 c1] tE)
  have e1 : (w5.alloc (.cells #[.int .i64 k, .int .i64 o, .int .i64 vk, .int .i64 vn, .string vs, .string nm, .slice A1 m1 c1] tE)).heap.size = w5.heap.size + 1 := by simp
  have hs7 := h2.size
  have ht := h1.tree 6 0 0 0 [] []
  have hfar : Oth B w5 w7 := ⟨(hb.mono (by omega)).grown h2 (by omega) fun k hk => by
      have hk : w5.heap.size = k := Option.some.inj hk
      omega, fun b hb' hbp => (h2.block b (by omega) (fun e => by have : b = w5.heap.size := Option.some.inj e; omega)).trans (hb.block b hb')⟩
  refine gives_put (a := w7) (R := R) (x := inn (x :: ys)) hB (ht.more fun b hb' => ?_) (Cel.grown (hz.below hb) h2 (fun e => by have : B = w5.heap.size := Option.some.inj e; omega)) hg (ho.trans hfar)
  rcases hb' with hb' | hb'
  · exact ⟨(hS b hb').1, by have := (hS b hb').2; omega⟩
  · have hlt7 := h1.lt b hb'
    rcases h3 with h3 | h3
    · have : b = w5.heap.size := Option.some.inj (hb'.symm.trans h3)
      omega
    · have : b = w5.heap.size + 1 := by
        have h4 := Option.some.inj (hb'.symm.trans h3)
        rw [e1] at h4
        exact h4
      omega
theorem mid_of0 {w W0 w1 : World} {B : Nat} {x : Ex} {k o vk vn : Int} {vs nm : ByteArray} {A1 : Option Addr} {m1 c1 : Nat} (hB : B < w.heap.size) (hO : Oth B w W0) (hc : Cel W0 w.heap.size tE zC.toArray) (hs : W0.heap.size = w.heap.size + 1) (hx : ExIn w1 (fun b => W0.heap.size ≤ b ∧ b < w1.heap.size) x [.int .i64 k, .int .i64 o, .int .i64 vk, .int .i64 vn, .string vs, .string nm, .slice A1 m1 c1]) (ho : Oth B W0 w1) : Rmid w (w1.alloc (.cells #[.int .i64 k, .int .i64 o, .int .i64 vk, .int .i64 vn, .string vs, .string nm, .slice A1 m1 c1] tE)) B w1.heap.size x [.int .i64 k, .int .i64 o, .int .i64 vk, .int .i64 vn, .string vs, .string nm, .slice A1 m1 c1] := by
  have hb := al (Below.refl w1.heap.size w1) (.cells #[.int .i64 k, .int .i64 o, .int .i64 vk, .int .i64 vn, .string vs, .string nm, .slice A1 m1 c1] tE)
  have h1 := ho.size
  have e1 : (w1.alloc (.cells #[.int .i64 k, .int .i64 o, .int .i64 vk, .int .i64 vn, .string vs, .string nm, .slice A1 m1 c1] tE)).heap.size = w1.heap.size + 1 := by simp
  exact ⟨Cel.new w1 _ _ rfl, (ho.cel (by omega) hc).below hb, ExIn.to (fun b hb' => ⟨by omega, by omega⟩) (fun p hp => hb.cell (p := p) hp.2) _ _ hx, (hO.trans ho).trans (Oth.of hb (by omega)), by omega, by omega⟩
set_option maxRecDepth 100000 in
set_option maxHeartbeats 4000000 in
theorem isR_step {B n c N : Nat} {A : Option Addr} {L : List To} (h5 : ReadsR 24 #[pV B, .int .i64 5] B A n c L (fun p => rankP (Ts L) N 5 p)) (hlist : ReadsRL 62 B A n c L 8 (fun p => listP (Ts L) N 8 p)) (hL : Rts L) (hn : n = L.length) : ReadsR 41 #[pV B] B A n c L (fun p => isP (Ts L) (N + 1) p) := by
  intro w p h hE hp h99
  obtain ⟨R, hR⟩ : ∃ R, isP (Ts L) (N + 1) p = R := ⟨_, rfl⟩
  replace h99 : ∀ q, R ≠ .err 99 q := fun q => by rw [← hR]; exact h99 q
  show Calls Tryz.prog 41 #[pV B] w (Gives w B (.slice A n c) (isP (Ts L) (N + 1) p))
  rw [hR]
  rw [isP] at hR
  have hB := h.lt
  have h99' := no99_bind (fun q' => by rw [hR]; exact h99 q')
  have hin := (inner hL.2.2 N).rank 5 p (by rw [Ts_len]; exact hp)
  obtain ⟨W0, hW0⟩ : ∃ W0, w.alloc (.cells zC.toArray tE) = W0 := ⟨_, rfl⟩
  have hb0 : Below w.heap.size w W0 := hW0 ▸ al (Below.refl _ _) _
  have hO0 := Oth.of hb0 (Nat.le_of_lt hB)
  have hz0 := h.below hb0
  have hc0 : Cel W0 w.heap.size tE zC.toArray := hW0 ▸ Cel.new w _ _ rfl
  have hs0 : W0.heap.size = w.heap.size + 1 := by rw [← hW0]; simp
  have H0 := Lib.hid (h5.got hz0 (hE.oth hO0) hp rfl h99')
  cases h1 : rankP (Ts L) N 5 p with
  | err e s =>
    rw [h1] at hR h99' hin
    rw [h1] at H0
    subst hR
    have hq : s < L.length := by
      rcases hin with h | h
      · exact absurd (by rw [h]) (h99' s)
      · rwa [Ts_len] at h
    have HSG := Lib.hid (show ∀ W, e ≠ 0 → Rz W B (.slice A n c) s e → Oth B w W → Calls Tryz.prog 43 #[pV B, .int .i64 4] W fun x w' => x = .returned (.int .i64 0) ∧ Rz w' B (.slice A n c) s e ∧ Oth B W w' from fun W he hW hb => by
      have := signR_any hW (hE.oth hb) hL hn hq 4
      rwa [if_neg he, if_neg (fun g => he g.1)] at this)
    have HHN := Lib.hid (show ∀ (k : List UInt8) W, e ≠ 0 → Rz W B (.slice A n c) s e → Oth B w W → Calls Tryz.prog 40 #[pV B, .string ⟨k.toArray⟩] W fun r w' => r = .returned (.bool false) ∧ Rz w' B (.slice A n c) s e ∧ Oth B W w' from fun k W he hW hb => have_not hW (hE.oth hb) hL hn hq (.inl he))
    have HB := Lib.hid hB
    have HO0 := Lib.hid hO0
    have HC0 := Lib.hid hc0
    have HS0 := Lib.hid hs0
    clear h hE h5 hlist hL hn hp h99 h99' hb0 hO0 hz0 hc0 hs0 hB hin h1 hq
    go_enter Tryz.func41, Tryz.ntmps41
    go_wp2_with (first
      | (go_at_call 24; (refine H0.out.mono ?_); rintro e' w1 ⟨x, k, o, vk, vn, vs, nm, A1, m1, c1, q', e1, rfl, hx, hz, hg, ho⟩; obtain ⟨rfl, rfl, hnz⟩ := hg; have HNZ := Lib.hid hnz; have hb3 := al (Below.refl w1.heap.size w1) (.cells #[.int .i64 k, .int .i64 o, .int .i64 vk, .int .i64 vn, .string vs, .string nm, .slice A1 m1 c1] tE); have H1 := Lib.hid (mid_of0 HB.out HO0.out HC0.out HS0.out hx ho); have H2 := Lib.hid (hz.below hb3); clear hx hz ho hb3 hnz)
      | (go_at_call 43; (refine (HSG.out _ HNZ.out H2.out H1.out.oth).mono ?_); rintro e' w2 ⟨rfl, hz, ho⟩; have H3 := Lib.hid (H1.out.next HB.out ho); have H4 := Lib.hid hz; clear hz ho)
      | (go_at_call_of 40 (Value.string ⟨#[73, 83]⟩); (refine (HHN.out [73, 83] _ HNZ.out H4.out H3.out.oth).mono ?_); rintro e' w3 ⟨rfl, hz, ho⟩; have H5 := Lib.hid (H3.out.next HB.out ho); have H6 := Lib.hid hz; clear hz ho)
      | (go_at_call_of 40 (Value.string ⟨#[73, 78]⟩); (refine (HHN.out [73, 78] _ HNZ.out H6.out H5.out.oth).mono ?_); rintro e' w4 ⟨rfl, hz, ho⟩; have H7 := Lib.hid (H5.out.next HB.out ho); have H8 := Lib.hid hz; have M := H7.out; have a0 := M.c3.at_ 0; have b0 := M.c2.at_ 0; have a1 := M.c3.at_ 1; have b1 := M.c2.at_ 1; have a2 := M.c3.at_ 2; have b2 := M.c2.at_ 2; have a3 := M.c3.at_ 3; have b3 := M.c2.at_ 3; have a4 := M.c3.at_ 4; have b4 := M.c2.at_ 4; have a5 := M.c3.at_ 5; have b5 := M.c2.at_ 5; have a6 := M.c3.at_ 6; have b6 := M.c2.at_ 6; have f4 := fun i => M.c2.open_ i; clear M hz ho))
    (try simp only [Exit.inBlock, Exit.then])
    refine bodyPost_ret (v := .agg #[.int .i64 k, .int .i64 o, .int .i64 vk, .int .i64 vn, .string vs, .string nm, .slice A1 m1 c1]) ?_ rfl ?_
    · simp only [results, Tryz.f41]
      go_simp
    exact gives_put HB.out H7.out.tree H8.out ⟨rfl, rfl, HNZ.out⟩ H7.out.oth
  | ok x q =>
  rw [h1] at hR h99' hin
  rw [h1] at H0
  replace hR : isG (Ts L) N x q = R := hR
  have hq : q < L.length := by have := hin.2; rwa [Ts_len] at this
  have HEX := Lib.hid hE
  have HB := Lib.hid hB
  have HO0 := Lib.hid hO0
  have HC0 := Lib.hid hc0
  have HS0 := Lib.hid hs0
  by_cases hs : sgAt (Ts L) 4 q = 0
  · have HSG := Lib.hid (show ∀ W, Rz W B (.slice A n c) q 0 → Oth B w W → Calls Tryz.prog 43 #[pV B, .int .i64 4] W fun x w' => x = .returned (.int .i64 0) ∧ Rz w' B (.slice A n c) q 0 ∧ Oth B W w' from fun W hW hb => by
      have := signR_any hW (hE.oth hb) hL hn hq 4
      rwa [if_pos rfl, if_neg (fun g => g.2 hs), hs] at this)
    have hR2 := hR
    unfold isG at hR2
    rw [hs, if_neg (by decide)] at hR2
    cases hti : isT (Ts L) q kIS with
    | true =>
      rw [hti, if_pos rfl] at hR2
      have hq1 : q + 1 < L.length := by have := hL.2.2.isT (by rw [Ts_len]; exact hq) hti; rwa [Ts_len] at this
      have HIS := Lib.hid (show ∀ W, Rz W B (.slice A n c) q 0 → Oth B w W → Calls Tryz.prog 40 #[pV B, .string ⟨#[73, 83]⟩] W fun r w' => r = .returned (.bool true) ∧ Rz w' B (.slice A n c) (q + 1) 0 ∧ Oth B W w' from fun W hW hb => have_is hW (hE.oth hb) hL hn hq rfl (k := kIS) hti)
      cases htn : isT (Ts L) (q + 1) kNOT with
      | true =>
        rw [htn, if_pos rfl] at hR2
        have hq2 : q + 1 + 1 < L.length := by have := hL.2.2.isT (by rw [Ts_len]; exact hq1) htn; rwa [Ts_len] at this
        have HNT := Lib.hid (show ∀ W, Rz W B (.slice A n c) (q + 1) 0 → Oth B w W → Calls Tryz.prog 40 #[pV B, .string ⟨#[78, 79, 84]⟩] W fun r w' => r = .returned (.bool true) ∧ Rz w' B (.slice A n c) (q + 1 + 1) 0 ∧ Oth B W w' from fun W hW hb => have_is hW (hE.oth hb) hL hn hq1 rfl (k := kNOT) htn)
        obtain ⟨q9, e9, hg9, hmu⟩ : ∃ (q9 : Nat) (e9 : Int), GotR R (un 4 x) q9 e9 ∧ ∀ W, Rz W B (.slice A n c) (q + 1 + 1) 0 → Oth B w W → Calls Tryz.prog 61 #[pV B, .string ⟨#[78, 85, 76, 76]⟩] W fun r w' => r = .returned (.tuple #[]) ∧ Rz w' B (.slice A n c) q9 e9 ∧ Oth B W w' := by
          cases htu : isT (Ts L) (q + 2) Val.wNull with
          | true =>
            rw [htu, if_pos rfl] at hR2
            exact ⟨(q + 1 + 1) + 1, 0, by rw [← hR2]; exact ⟨rfl, rfl, rfl⟩, fun W hW hb => mustR_is hW (hE.oth hb) hL hn hq2 rfl (k := Val.wNull) htu⟩
          | false =>
            rw [htu, if_neg (by decide)] at hR2
            exact ⟨(q + 1 + 1), 16, by rw [← hR2]; exact ⟨rfl, rfl, by decide⟩, fun W hW hb => mustR_not hW (hE.oth hb) hL hn hq2 (k := Val.wNull) (.inr htu)⟩
        have HMU := Lib.hid hmu
        have HG9 := Lib.hid hg9
        clear h hE h5 hlist hR hL hn hp h99 h99' hb0 hO0 hz0 hc0 hs0 hB hin h1 hq hs hti htn hmu hg9 hR2
        go_enter Tryz.func41, Tryz.ntmps41
        go_wp2_with (first | (go_at_call 24; (refine H0.out.mono ?_); rintro e' w1 ⟨x', k, o, vk, vn, vs, nm, A1, m1, c1, q', e1, rfl, hx, hz, hg, ho⟩; obtain ⟨rfl, rfl, rfl⟩ := hg; have hb3 := al (Below.refl w1.heap.size w1) (.cells #[.int .i64 k, .int .i64 o, .int .i64 vk, .int .i64 vn, .string vs, .string nm, .slice A1 m1 c1] tE); have H1 := Lib.hid (mid_of0 HB.out HO0.out HC0.out HS0.out hx ho); have H2 := Lib.hid (hz.below hb3); clear hx hz ho hb3) | (go_at_call 43; (refine (HSG.out _ H2.out H1.out.oth).mono ?_); rintro e' w2 ⟨rfl, hz, ho⟩; have H3 := Lib.hid (H1.out.next HB.out ho); have H4 := Lib.hid hz; clear hz ho) | (go_at_call_of 40 (Value.string ⟨#[73, 83]⟩); (refine (HIS.out _ H4.out H3.out.oth).mono ?_); rintro e' w3 ⟨rfl, hz, ho⟩; have H5 := Lib.hid (H3.out.next HB.out ho); have H6 := Lib.hid hz; clear hz ho) | (go_at_call_of 40 (Value.string ⟨#[78, 79, 84]⟩); (refine (HNT.out _ H6.out H5.out.oth).mono ?_); rintro e' w4 ⟨rfl, hz, ho⟩; have H7 := Lib.hid (H5.out.next HB.out ho); have H8 := Lib.hid hz; clear hz ho) | (go_at_call 61; (refine (HMU.out _ H8.out H7.out.oth).mono ?_); rintro e' w5 ⟨rfl, hz, ho⟩; have H9 := Lib.hid (H7.out.next HB.out ho); have H10 := Lib.hid hz; have M := H9.out; have a0 := M.c3.at_ 0; have a1 := M.c3.at_ 1; have a2 := M.c3.at_ 2; have a3 := M.c3.at_ 3; have a4 := M.c3.at_ 4; have a5 := M.c3.at_ 5; have a6 := M.c3.at_ 6; have hb6 := al (Below.refl w5.heap.size w5) (.cells #[.int .i64 k, .int .i64 o, .int .i64 vk, .int .i64 vn, .string vs, .string nm, .slice A1 m1 c1] tE); have hc2 := M.c2.below hb6; have b0 := hc2.at_ 0; have b1 := hc2.at_ 1; have b2 := hc2.at_ 2; have b3 := hc2.at_ 3; have b4 := hc2.at_ 4; have b5 := hc2.at_ 5; have b6 := hc2.at_ 6; have f4 := fun i => hc2.open_ i; clear M hz ho hb6 hc2))
        (try simp only [Exit.inBlock, Exit.then])
        refine bodyPost_ret (v := .agg #[.int .i64 4, .int .i64 4, .int .i64 0, .int .i64 0, .string ⟨#[]⟩, .string ⟨#[]⟩, .slice (some ⟨w5.heap.size, 0, none⟩) 1 1]) ?_ rfl ?_
        · simp only [results, Tryz.f41]
          go_simp
        exact gives_one HB.out (by have := H9.out.lt; omega) H9.out.tree H10.out 4 HG9.out H9.out.oth
      | false =>
        rw [htn, if_neg (by decide)] at hR2
        have HNT := Lib.hid (show ∀ W, Rz W B (.slice A n c) (q + 1) 0 → Oth B w W → Calls Tryz.prog 40 #[pV B, .string ⟨#[78, 79, 84]⟩] W fun r w' => r = .returned (.bool false) ∧ Rz w' B (.slice A n c) (q + 1) 0 ∧ Oth B W w' from fun W hW hb => have_not hW (hE.oth hb) hL hn hq1 (k := kNOT) (.inr htn))
        obtain ⟨q9, e9, hg9, hmu⟩ : ∃ (q9 : Nat) (e9 : Int), GotR R (un 3 x) q9 e9 ∧ ∀ W, Rz W B (.slice A n c) (q + 1) 0 → Oth B w W → Calls Tryz.prog 61 #[pV B, .string ⟨#[78, 85, 76, 76]⟩] W fun r w' => r = .returned (.tuple #[]) ∧ Rz w' B (.slice A n c) q9 e9 ∧ Oth B W w' := by
          cases htu : isT (Ts L) (q + 1) Val.wNull with
          | true =>
            rw [htu, if_pos rfl] at hR2
            exact ⟨(q + 1) + 1, 0, by rw [← hR2]; exact ⟨rfl, rfl, rfl⟩, fun W hW hb => mustR_is hW (hE.oth hb) hL hn hq1 rfl (k := Val.wNull) htu⟩
          | false =>
            rw [htu, if_neg (by decide)] at hR2
            exact ⟨(q + 1), 16, by rw [← hR2]; exact ⟨rfl, rfl, by decide⟩, fun W hW hb => mustR_not hW (hE.oth hb) hL hn hq1 (k := Val.wNull) (.inr htu)⟩
        have HMU := Lib.hid hmu
        have HG9 := Lib.hid hg9
        clear h hE h5 hlist hR hL hn hp h99 h99' hb0 hO0 hz0 hc0 hs0 hB hin h1 hq hs hti htn hmu hg9 hR2
        go_enter Tryz.func41, Tryz.ntmps41
        go_wp2_with (first | (go_at_call 24; (refine H0.out.mono ?_); rintro e' w1 ⟨x', k, o, vk, vn, vs, nm, A1, m1, c1, q', e1, rfl, hx, hz, hg, ho⟩; obtain ⟨rfl, rfl, rfl⟩ := hg; have hb3 := al (Below.refl w1.heap.size w1) (.cells #[.int .i64 k, .int .i64 o, .int .i64 vk, .int .i64 vn, .string vs, .string nm, .slice A1 m1 c1] tE); have H1 := Lib.hid (mid_of0 HB.out HO0.out HC0.out HS0.out hx ho); have H2 := Lib.hid (hz.below hb3); clear hx hz ho hb3) | (go_at_call 43; (refine (HSG.out _ H2.out H1.out.oth).mono ?_); rintro e' w2 ⟨rfl, hz, ho⟩; have H3 := Lib.hid (H1.out.next HB.out ho); have H4 := Lib.hid hz; clear hz ho) | (go_at_call_of 40 (Value.string ⟨#[73, 83]⟩); (refine (HIS.out _ H4.out H3.out.oth).mono ?_); rintro e' w3 ⟨rfl, hz, ho⟩; have H5 := Lib.hid (H3.out.next HB.out ho); have H6 := Lib.hid hz; clear hz ho) | (go_at_call_of 40 (Value.string ⟨#[78, 79, 84]⟩); (refine (HNT.out _ H6.out H5.out.oth).mono ?_); rintro e' w4 ⟨rfl, hz, ho⟩; have H7 := Lib.hid (H5.out.next HB.out ho); have H8 := Lib.hid hz; clear hz ho) | (go_at_call 61; (refine (HMU.out _ H8.out H7.out.oth).mono ?_); rintro e' w5 ⟨rfl, hz, ho⟩; have H9 := Lib.hid (H7.out.next HB.out ho); have H10 := Lib.hid hz; have M := H9.out; have a0 := M.c3.at_ 0; have a1 := M.c3.at_ 1; have a2 := M.c3.at_ 2; have a3 := M.c3.at_ 3; have a4 := M.c3.at_ 4; have a5 := M.c3.at_ 5; have a6 := M.c3.at_ 6; have hb6 := al (Below.refl w5.heap.size w5) (.cells #[.int .i64 k, .int .i64 o, .int .i64 vk, .int .i64 vn, .string vs, .string nm, .slice A1 m1 c1] tE); have hc2 := M.c2.below hb6; have b0 := hc2.at_ 0; have b1 := hc2.at_ 1; have b2 := hc2.at_ 2; have b3 := hc2.at_ 3; have b4 := hc2.at_ 4; have b5 := hc2.at_ 5; have b6 := hc2.at_ 6; have f4 := fun i => hc2.open_ i; clear M hz ho hb6 hc2))
        (try simp only [Exit.inBlock, Exit.then])
        refine bodyPost_ret (v := .agg #[.int .i64 4, .int .i64 3, .int .i64 0, .int .i64 0, .string ⟨#[]⟩, .string ⟨#[]⟩, .slice (some ⟨w5.heap.size, 0, none⟩) 1 1]) ?_ rfl ?_
        · simp only [results, Tryz.f41]
          go_simp
        exact gives_one HB.out (by have := H9.out.lt; omega) H9.out.tree H10.out 3 HG9.out H9.out.oth
    | false =>
      rw [hti, if_neg (by decide)] at hR2
      have HIS := Lib.hid (show ∀ W, Rz W B (.slice A n c) q 0 → Oth B w W → Calls Tryz.prog 40 #[pV B, .string ⟨#[73, 83]⟩] W fun r w' => r = .returned (.bool false) ∧ Rz w' B (.slice A n c) q 0 ∧ Oth B W w' from fun W hW hb => have_not hW (hE.oth hb) hL hn hq (k := kIS) (.inr hti))
      cases htj : isT (Ts L) q kIN with
      | false =>
        rw [htj, if_neg (by decide)] at hR2
        subst hR2
        have HIN := Lib.hid (show ∀ W, Rz W B (.slice A n c) q 0 → Oth B w W → Calls Tryz.prog 40 #[pV B, .string ⟨#[73, 78]⟩] W fun r w' => r = .returned (.bool false) ∧ Rz w' B (.slice A n c) q 0 ∧ Oth B W w' from fun W hW hb => have_not hW (hE.oth hb) hL hn hq (k := kIN) (.inr htj))
        clear h hE h5 hlist hR hL hn hp h99 h99' hb0 hO0 hz0 hc0 hs0 hB hin h1 hq hs hti htj
        go_enter Tryz.func41, Tryz.ntmps41
        go_wp2_with (first
          | (go_at_call 24; (refine H0.out.mono ?_); rintro e' w1 ⟨x', k, o, vk, vn, vs, nm, A1, m1, c1, q', e1, rfl, hx, hz, hg, ho⟩; obtain ⟨rfl, rfl, rfl⟩ := hg; have hb3 := al (Below.refl w1.heap.size w1) (.cells #[.int .i64 k, .int .i64 o, .int .i64 vk, .int .i64 vn, .string vs, .string nm, .slice A1 m1 c1] tE); have H1 := Lib.hid (mid_of0 HB.out HO0.out HC0.out HS0.out hx ho); have H2 := Lib.hid (hz.below hb3); clear hx hz ho hb3)
          | (go_at_call 43; (refine (HSG.out _ H2.out H1.out.oth).mono ?_); rintro e' w2 ⟨rfl, hz, ho⟩; have H3 := Lib.hid (H1.out.next HB.out ho); have H4 := Lib.hid hz; clear hz ho)
          | (go_at_call_of 40 (Value.string ⟨#[73, 83]⟩); (refine (HIS.out _ H4.out H3.out.oth).mono ?_); rintro e' w3 ⟨rfl, hz, ho⟩; have H5 := Lib.hid (H3.out.next HB.out ho); have H6 := Lib.hid hz; clear hz ho)
          | (go_at_call_of 40 (Value.string ⟨#[73, 78]⟩); (refine (HIN.out _ H6.out H5.out.oth).mono ?_); rintro e' w4 ⟨rfl, hz, ho⟩; have H7 := Lib.hid (H5.out.next HB.out ho); have H8 := Lib.hid hz; have M := H7.out; have a0 := M.c3.at_ 0; have b0 := M.c2.at_ 0; have a1 := M.c3.at_ 1; have b1 := M.c2.at_ 1; have a2 := M.c3.at_ 2; have b2 := M.c2.at_ 2; have a3 := M.c3.at_ 3; have b3 := M.c2.at_ 3; have a4 := M.c3.at_ 4; have b4 := M.c2.at_ 4; have a5 := M.c3.at_ 5; have b5 := M.c2.at_ 5; have a6 := M.c3.at_ 6; have b6 := M.c2.at_ 6; have f4 := fun i => M.c2.open_ i; clear M hz ho))
        (try simp only [Exit.inBlock, Exit.then])
        refine bodyPost_ret (v := .agg #[.int .i64 k, .int .i64 o, .int .i64 vk, .int .i64 vn, .string vs, .string nm, .slice A1 m1 c1]) ?_ rfl ?_
        · simp only [results, Tryz.f41]
          go_simp
        exact gives_put HB.out H7.out.tree H8.out ⟨rfl, rfl, rfl⟩ H7.out.oth
      | true =>
        rw [htj, if_pos rfl] at hR2
        have hq1 : q + 1 < L.length := by have := hL.2.2.isT (by rw [Ts_len]; exact hq) htj; rwa [Ts_len] at this
        have HIN := Lib.hid (show ∀ W, Rz W B (.slice A n c) q 0 → Oth B w W → Calls Tryz.prog 40 #[pV B, .string ⟨#[73, 78]⟩] W fun r w' => r = .returned (.bool true) ∧ Rz w' B (.slice A n c) (q + 1) 0 ∧ Oth B W w' from fun W hW hb => have_is hW (hE.oth hb) hL hn hq rfl (k := kIN) htj)
        have h992 := no99_bind (fun q' => by rw [hR2]; exact h99 q')
        have HLI := Lib.hid (show ∀ W, Rz W B (.slice A n c) (q + 1) 0 → Oth B w W → Calls Tryz.prog 62 #[pV B, .int .i64 8] W (GivesL W B (.slice A n c) (listP (Ts L) N 8 (q + 1))) from fun W hW hb => hlist.got hW (hE.oth hb) hq1 rfl h992)
        have HR2 := Lib.hid hR2
        clear h hE h5 hlist hR hL hn hp h99 h99' hb0 hO0 hz0 hc0 hs0 hB hin h1 hq hs hti htj hq1 h992 hR2
        go_enter Tryz.func41, Tryz.ntmps41
        go_wp2_with (first
          | (go_at_call 24; (refine H0.out.mono ?_); rintro e' w1 ⟨x', k, o, vk, vn, vs, nm, A1, m1, c1, q', e1, rfl, hx, hz, hg, ho⟩; obtain ⟨rfl, rfl, rfl⟩ := hg; have hb3 := al (Below.refl w1.heap.size w1) (.cells #[.int .i64 k, .int .i64 o, .int .i64 vk, .int .i64 vn, .string vs, .string nm, .slice A1 m1 c1] tE); have H1 := Lib.hid (mid_of0 HB.out HO0.out HC0.out HS0.out hx ho); have H2 := Lib.hid (hz.below hb3); clear hx hz ho hb3)
          | (go_at_call 43; (refine (HSG.out _ H2.out H1.out.oth).mono ?_); rintro e' w2 ⟨rfl, hz, ho⟩; have H3 := Lib.hid (H1.out.next HB.out ho); have H4 := Lib.hid hz; clear hz ho)
          | (go_at_call_of 40 (Value.string ⟨#[73, 83]⟩); (refine (HIS.out _ H4.out H3.out.oth).mono ?_); rintro e' w3 ⟨rfl, hz, ho⟩; have H5 := Lib.hid (H3.out.next HB.out ho); have H6 := Lib.hid hz; clear hz ho)
          | (go_at_call_of 40 (Value.string ⟨#[73, 78]⟩); (refine (HIN.out _ H6.out H5.out.oth).mono ?_); rintro e' w4 ⟨rfl, hz, ho⟩; have H7 := Lib.hid (H5.out.next HB.out ho); have H8 := Lib.hid hz; clear hz ho)
          | (go_at_call 62; (refine (HLI.out _ H8.out H7.out.oth).mono ?_); rintro e' w5 ⟨ys, g5, m5, c5, q5, e5, rfl, hm5, hm1, hm8, hol, hz, hg, ho⟩; obtain ⟨S, k1, k2, k3, k4⟩ := in_ready HB.out H7.out hm5 hol ho hz; have H9 := Lib.hid (And.intro k1 (And.intro k2 (And.intro k3 k4))); have H10 := Lib.hid (H7.out.next HB.out ho); have H11 := Lib.hid hz; have H12 := Lib.hid hg; have H13 := Lib.hid hm5; have H14 := Lib.hid hm8; have M := H10.out; have q0 := past (M.c3.at_ 0) (.cells #[.int .i64 k, .int .i64 o, .int .i64 vk, .int .i64 vn, .string vs, .string nm, .slice A1 m1 c1] tE); have a0 := M.c3.at_ 0; have a1 := M.c3.at_ 1; have a2 := M.c3.at_ 2; have a3 := M.c3.at_ 3; have a4 := M.c3.at_ 4; have a5 := M.c3.at_ 5; have a6 := M.c3.at_ 6; clear M q0 k1 k2 k3 k4 hol hz hg ho hm5 hm1 hm8)
          | (at_builtin; go_loud (refine wp_trees w.heap.size (.tmp 36) (.tmp 37) rfl rfl rfl H9.out.1 rfl H9.out.2.1 H13.out H9.out.2.2.1 (by have := H10.out.oth.size; simp; omega) (by have := H13.out; have := H14.out; simp; omega) ?_; intro v' w7 g1 g2 g3; obtain ⟨A', c', rfl, -, -, -⟩ := g1.form; have H15 := Lib.hid (And.intro g1 (And.intro g2 g3)); have hc2 := Cel.grown (H10.out.c2.below (al (Below.refl w5.heap.size w5) (.cells #[.int .i64 k, .int .i64 o, .int .i64 vk, .int .i64 vn, .string vs, .string nm, .slice A1 m1 c1] tE))) g2 (fun e => by have h8 : w.heap.size = w5.heap.size := Option.some.inj e; have := H10.out.lt; omega); have b0 := hc2.at_ 0; have b1 := hc2.at_ 1; have b2 := hc2.at_ 2; have b3 := hc2.at_ 3; have b4 := hc2.at_ 4; have b5 := hc2.at_ 5; have b6 := hc2.at_ 6; have f4 := fun i => hc2.open_ i; clear g1 g2 g3 hc2)))
        (try simp only [Exit.inBlock, Exit.then])
        refine bodyPost_ret (v := .agg #[.int .i64 6, .int .i64 0, .int .i64 0, .int .i64 0, .string ⟨#[]⟩, .string ⟨#[]⟩, .slice A' ([x'] ++ ys).length c']) ?_ rfl ?_
        · simp only [results, Tryz.f41]
          go_simp
        refine gives_in HB.out (by have := H10.out.lt; omega) H15.out.1 H15.out.2.1 H15.out.2.2 H9.out.2.2.2 H11.out ?_ H10.out.oth
        rw [← HR2.out]
        exact H12.out.map _
  · have hq1 : q + 1 < L.length := by have := hL.2.2.sg (by rw [Ts_len]; exact hq) hs; rwa [Ts_len] at this
    obtain ⟨op, hop⟩ : ∃ op, sgAt (Ts L) 4 q = op := ⟨_, rfl⟩
    have hop0 : 0 < op := by
      have h1 := (opT_le (tk (Ts L) q)).1
      have h2 : op = 0 ∨ op = opT (tk (Ts L) q) := by rw [← hop]; unfold sgAt; split <;> simp
      rw [hop] at hs
      omega
    have HSG := Lib.hid (show ∀ W, Rz W B (.slice A n c) q 0 → Oth B w W → Calls Tryz.prog 43 #[pV B, .int .i64 4] W fun x w' => x = .returned (.int .i64 op) ∧ Rz w' B (.slice A n c) (q + 1) 0 ∧ Oth B W w' from fun W hW hb => by
      have := signR_any hW (hE.oth hb) hL hn hq 4
      rwa [if_pos rfl, if_pos ⟨rfl, hs⟩, hop] at this)
    have hR2 : ((rankP (Ts L) N 5 (q + 1)).bind fun y s => Res.ok (bin op x y) s) = R := by
      rw [← hR, ← hop]
      show _ = (if sgAt (Ts L) 4 q ≠ 0 then _ else _)
      rw [if_pos hs]
    have h992 := no99_bind (fun q' => by rw [hR2]; exact h99 q')
    have HO2 := Lib.hid (show ∀ W, Rz W B (.slice A n c) (q + 1) 0 → Oth B w W → Calls Tryz.prog 24 #[pV B, .int .i64 5] W (Gives W B (.slice A n c) (rankP (Ts L) N 5 (q + 1))) from fun W hW hb => h5.got hW (hE.oth hb) hq1 rfl h992)
    have HR2 := Lib.hid hR2
    have t0 : decide (0 < op) = true := decide_eq_true hop0
    clear h hE h5 hlist hR hL hn hp h99 h99' hb0 hO0 hz0 hc0 hs0 hB hin h1 hq hs hq1 hop hop0 h992 hR2
    go_enter Tryz.func41, Tryz.ntmps41
    go_upto_region 3 with (first | (go_at_call 24; (refine H0.out.mono ?_); rintro e' w1 ⟨x', k, o, vk, vn, vs, nm, A1, m1, c1, q', e1, rfl, hx, hz, hg, ho⟩; obtain ⟨rfl, rfl, rfl⟩ := hg; have hb3 := al (Below.refl w1.heap.size w1) (.cells #[.int .i64 k, .int .i64 o, .int .i64 vk, .int .i64 vn, .string vs, .string nm, .slice A1 m1 c1] tE); have H1 := Lib.hid (mid_of0 HB.out HO0.out HC0.out HS0.out hx ho); have H2 := Lib.hid (hz.below hb3); clear hx hz ho hb3) | (go_at_call 43; (refine (HSG.out _ H2.out H1.out.oth).mono ?_); rintro e' w2 ⟨rfl, hz, ho⟩; have H3 := Lib.hid (H1.out.next HB.out ho); have H4 := Lib.hid hz; clear hz ho))
    go_wp2_with (go_at_call 24; (refine (HO2.out _ H4.out H3.out.oth).mono ?_); rintro e' w3 ⟨y, k', o', vk', vn', vs', nm', A2, m2, c2, s, e2, rfl, hy, hz, hg, ho⟩; have hs3 := H3.out.oth.size; have hlt3 := H3.out.lt; have M0 := H3.out.next HB.out ho; have hb4 := al (Below.refl w3.heap.size w3) (.cells #[.int .i64 k', .int .i64 o', .int .i64 vk', .int .i64 vn', .string vs', .string nm', .slice A2 m2 c2] tE); obtain ⟨W4, hW4⟩ : ∃ W4, w3.alloc (.cells #[.int .i64 k', .int .i64 o', .int .i64 vk', .int .i64 vn', .string vs', .string nm', .slice A2 m2 c2] tE) = W4 := ⟨_, rfl⟩; rw [hW4] at hb4; have hs4 : W4.heap.size = w3.heap.size + 1 := (by rw [← hW4]; simp); have hbw : B ≤ w3.heap.size := (by have := HB.out; have := M0.lt; omega); have M := M0.next HB.out (Oth.of hb4 hbw); have H5 := Lib.hid M; have H6 := Lib.hid (hz.below hb4); have H7 := Lib.hid (show ExIn W4 (fun b => w.heap.size < b ∧ b < W4.heap.size) y [.int .i64 k', .int .i64 o', .int .i64 vk', .int .i64 vn', .string vs', .string nm', .slice A2 m2 c2] from ExIn.to (fun b hb => ⟨by omega, by omega⟩) (fun p hp => hb4.cell (p := p) hp.2) _ _ hy); have H8 := Lib.hid hg; have hd4 : Cel W4 w3.heap.size tE #[.int .i64 k', .int .i64 o', .int .i64 vk', .int .i64 vn', .string vs', .string nm', .slice A2 m2 c2] := hW4 ▸ Cel.new w3 _ _ rfl; have a0 := M.c3.at_ 0; have d0 := hd4.at_ 0; have a1 := M.c3.at_ 1; have d1 := hd4.at_ 1; have a2 := M.c3.at_ 2; have d2 := hd4.at_ 2; have a3 := M.c3.at_ 3; have d3 := hd4.at_ 3; have a4 := M.c3.at_ 4; have d4 := hd4.at_ 4; have a5 := M.c3.at_ 5; have d5 := hd4.at_ 5; have a6 := M.c3.at_ 6; have d6 := hd4.at_ 6; have H9 := Lib.hid hW4; have hb5 := al (Below.refl W4.heap.size W4) (.cells #[.int .i64 k, .int .i64 o, .int .i64 vk, .int .i64 vn, .string vs, .string nm, .slice A1 m1 c1, .int .i64 k', .int .i64 o', .int .i64 vk', .int .i64 vn', .string vs', .string nm', .slice A2 m2 c2] tE); have hc2 := M.c2.below hb5; have b0 := hc2.at_ 0; have b1 := hc2.at_ 1; have b2 := hc2.at_ 2; have b3 := hc2.at_ 3; have b4 := hc2.at_ 4; have b5 := hc2.at_ 5; have b6 := hc2.at_ 6; have f4 := fun i => hc2.open_ i; clear M M0 hy hz hg ho hb4 hb5 hd4 hs3 hlt3 hbw hc2)
    (try simp only [Exit.inBlock, Exit.then])
    refine bodyPost_ret (v := .agg #[.int .i64 5, .int .i64 op, .int .i64 0, .int .i64 0, .string ⟨#[]⟩, .string ⟨#[]⟩, .slice (some ⟨w3.heap.size + 1, 0, none⟩) 2 2]) ?_ rfl ?_
    · simp only [results, Tryz.f41]
      go_simp
    rw [← hs4]
    refine gives_two HB.out (by have := H5.out.lt; omega) H5.out.tree H7.out H6.out op ?_ H5.out.oth
    rw [← HR2.out]
    exact H8.out.map _
end Go.Proofs.YtlkmhdbmcfblkaaGreatDoor.Ep
