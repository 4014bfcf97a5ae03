/- Nodes in memory: what a call may turn, a node's block and its two lists, a tree. -/
import Derived.Test.YtjlfacmmokfleaaBtMath
import Derived.Test.YtjlfacmmokfleaaMemCel
import Derived.Test.YtjlfacmmokfleaaMemBytes
namespace Go.Proofs.Ytjlfacmmokfleaa.Bt
open Go.RowKit Go.Proofs.Ytjlfacmmokfleaa.Mem Go.Proofs.Ytjlfacmmokfleaa.Right
set_option linter.unusedVariables false

/-- What has turned between two worlds: of the old blocks those of F alone, and no bytes. -/
structure Fr (F : List Nat) (w w' : World) : Prop where
  os : w'.os = w.os
  tape : w'.tape = w.tape
  output : w'.output = w.output
  size : w.heap.size ≤ w'.heap.size
  block : ∀ b : Nat, b < w.heap.size → b ∉ F → w'.heap[b]? = w.heap[b]?
  bytes : ∀ (b : Nat) (cs : Array Value) (fr : Nat × Nat), w.heap[b]? = some (.cells cs 5 fr) → w'.heap[b]? = some (.cells cs 5 fr)
theorem Fr.refl (F : List Nat) (w : World) : Fr F w w := ⟨rfl, rfl, rfl, Nat.le_refl _, fun _ _ _ => rfl, fun _ _ _ h => h⟩
theorem Fr.then_ {F G : List Nat} {a b c : World} (h : Fr F a b) (k : Fr G b c) (hG : ∀ y ∈ G, y ∈ F ∨ a.heap.size ≤ y) : Fr F a c :=
  ⟨k.os.trans h.os, k.tape.trans h.tape, k.output.trans h.output, Nat.le_trans h.size k.size, fun j hj hF => (k.block j (Nat.lt_of_lt_of_le hj h.size) (fun e => by
    rcases hG j e with e | e
    · exact hF e
    · omega)).trans (h.block j hj hF), fun j cs fr hj => k.bytes j cs fr (h.bytes j cs fr hj)⟩
theorem Fr.trans {F : List Nat} {a b c : World} (h : Fr F a b) (k : Fr F b c) : Fr F a c := h.then_ k fun _ e => .inl e
theorem Fr.more {F G : List Nat} {a b : World} (h : Fr F a b) (hG : ∀ y ∈ F, y ∈ G) : Fr G a b := ⟨h.os, h.tape, h.output, h.size, fun j hj hn => h.block j hj (fun e => hn (hG j e)), h.bytes⟩
theorem Fr.of {F : List Nat} {a b : World} (h : Below a.heap.size a b) : Fr F a b := ⟨h.os, h.tape, h.output, h.size, fun j hj _ => h.block j hj, fun j cs fr hj => (h.block j (blk_lt hj)).trans hj⟩
theorem Fr.on {F : List Nat} {a b c : World} (h : Fr F a b) (k : Below b.heap.size b c) : Fr F a c := h.trans (Fr.of k)
theorem Fr.below {F : List Nat} {n : Nat} {a b : World} (h : Fr F a b) (hn : ∀ y ∈ F, n ≤ y) (hs : n ≤ a.heap.size) : Below n a b :=
  ⟨h.os, h.tape, h.output, h.size, fun j hj => h.block j (by omega) (fun e => by have := hn j e; omega)⟩
theorem Fr.row {w w' : World} {base : Nat} {e : TypeId} {k n : Nat} {v : Value} {us : List Value} (hown : w.ownsRow base e k v n us) (he : e ≠ 5) (hg : w.grownBy w' v.ownBlock) : Fr (blk v) w w' := by
  refine ⟨hg.os, hg.tape, hg.output, hg.size, fun j hj hn => hg.block j hj (fun e => hn (by unfold blk; rw [← e]; simp)), fun j cs fr hj => ?_⟩
  refine (hg.block j (blk_lt hj) (fun e2 => ?_)).trans hj
  rcases hown.2 with ⟨rfl, _⟩ | ⟨g, cap, cur, rfl, _, hh, _⟩
  · cases e2
  · injection e2 with e2
    subst e2
    rw [hj] at hh
    injection hh with hh
    injection hh with _ h2 _
    exact he h2.symm
theorem Fr.set {w : World} {B i : Nat} {t : TypeId} {cs : Array Value} (h : Cel w B t cs) (ht : t ≠ 5) (v : Value) : Fr [B] w (w.setCell ⟨B, i, none⟩ v) := by
  refine ⟨rfl, rfl, rfl, by simp [World.setCell], fun j hj hn => ?_, fun j cs' fr hj => ?_⟩
  · show (w.heap.modify B _)[j]? = _
    rw [Array.getElem?_modify, if_neg (fun e => hn (by simp [e]))]
  · show (w.heap.modify B _)[j]? = _
    rw [Array.getElem?_modify, if_neg ?_]
    · exact hj
    · rintro rfl
      have := hj.symm.trans h
      injection this with this
      injection this with _ e2 _
      exact ht e2.symm
theorem Fr.cel {F : List Nat} {a b : World} (h : Fr F a b) {B : Nat} {t : TypeId} {cs : Array Value} (k : Cel a B t cs) (hB : B ∉ F) : Cel b B t cs := (h.block B (blk_lt k) hB).trans k
theorem Fr.own {F : List Nat} {a b : World} (h : Fr F a b) {base : Nat} {e : TypeId} {s n : Nat} {v : Value} {us : List Value} (k : a.ownsRow base e s v n us) (hv : ∀ y ∈ blk v, y ∉ F) : b.ownsRow base e s v n us := by
  obtain ⟨h1, h2⟩ := k
  refine ⟨h1, ?_⟩
  rcases h2 with h2 | ⟨g, cap, cur, rfl, hb, hh, rest⟩
  · exact .inl h2
  · exact .inr ⟨g, cap, cur, rfl, hb, (h.block g (blk_lt hh) (hv g (by simp [blk, Value.ownBlock]))).trans hh, rest⟩

/-! ### Keys -/
def Key (w : World) (r : Pr) : Prop := Bs w r.a r.key.length r.c r.key ∧ Tyd w r.a 5 ∧ (r.a = none → r.c = 0)
theorem Fr.key {F : List Nat} {a b : World} (h : Fr F a b) {r : Pr} (k : Key a r) : Key b r := by
  obtain ⟨⟨h1, h2⟩, h3, h4⟩ := k
  refine ⟨⟨fun j u hu => ?_, h2⟩, fun g o e => ?_, h4⟩
  · obtain ⟨g, o, e, hg, hc⟩ := h1 j u hu
    obtain ⟨cs, fr, hb⟩ := h3 g o e
    have hb' := h.bytes g cs fr hb
    refine ⟨g, o, e, blk_lt hb', ?_⟩
    rw [← hc]
    exact World.cell?_of_block (w := a) (hb'.trans hb.symm)
  · obtain ⟨cs, fr, hb⟩ := h3 g o e
    exact ⟨cs, fr, h.bytes g cs fr hb⟩
theorem Key.below {w w' : World} {r : Pr} (h : Key w r) (hb : Below w.heap.size w w') : Key w' r := (Fr.of (F := []) hb).key h

/-! ### Lists of pairs and of nodes -/
def kv (r : Pr) : Value := .slice r.a r.key.length r.c
def pv (r : Pr) : Value := .agg #[kv r, .int .i64 r.num]
def cells2 (r : Pr) : List Value := [kv r, .int .i64 r.num]
def cellsP (ps : List Pr) : List Value := ps.flatMap cells2
theorem cellsP_len : ∀ ps : List Pr, (cellsP ps).length = ps.length * 2
  | [] => rfl
  | r :: t => by
    show (cells2 r ++ cellsP t).length = _
    rw [List.length_append, cellsP_len t]
    simp only [cells2, List.length_cons, List.length_nil]; omega
theorem cellsP_app (a b : List Pr) : cellsP a ++ cellsP b = cellsP (a ++ b) := by simp [cellsP]
theorem cellsP_take : ∀ (ps : List Pr) (i : Nat), (cellsP ps).take (i * 2) = cellsP (ps.take i)
  | [], i => by simp [cellsP]
  | r :: t, 0 => by simp [cellsP]
  | r :: t, i + 1 => by
    have := cellsP_take t i
    show (cells2 r ++ cellsP t).take ((i + 1) * 2) = cells2 r ++ cellsP (t.take i)
    rw [← this, List.take_append, show (i + 1) * 2 = i * 2 + 2 by omega]
    simp [cells2]
theorem cellsP_drop : ∀ (ps : List Pr) (i : Nat), (cellsP ps).drop (i * 2) = cellsP (ps.drop i)
  | [], i => by simp [cellsP]
  | r :: t, 0 => by simp
  | r :: t, i + 1 => by
    have := cellsP_drop t i
    show (cells2 r ++ cellsP t).drop ((i + 1) * 2) = cellsP (t.drop i)
    rw [← this, show (i + 1) * 2 = i * 2 + 2 by omega]
    simp [cells2]
theorem cellsP_at : ∀ {ps : List Pr} {j : Nat} {r : Pr}, ps[j]? = some r → (cellsP ps)[j * 2]? = some (kv r) ∧ (cellsP ps)[j * 2 + 1]? = some (.int .i64 r.num)
  | [], j, r, h => by simp at h
  | x :: t, 0, r, h => by
    simp at h
    subst h
    exact ⟨rfl, rfl⟩
  | x :: t, j + 1, r, h => by
    have := cellsP_at (ps := t) (j := j) (r := r) (by simpa using h)
    have e : cellsP (x :: t) = cells2 x ++ cellsP t := rfl
    rw [e, show (j + 1) * 2 = j * 2 + 2 by omega, show j * 2 + 2 + 1 = j * 2 + 1 + 2 by omega]
    simpa [cells2] using this
theorem cellsP_one (ps : List Pr) : ∀ u ∈ cellsP ps, u.oneCell' = true := by
  intro u hu
  obtain ⟨r, _, hr⟩ := List.mem_flatMap.1 hu
  simp only [cells2, List.mem_cons, List.not_mem_nil, or_false] at hr
  rcases hr with rfl | rfl <;> rfl
def ptr (b : Nat) : Value := .pointer (some ⟨b, 0, none⟩)
def ptrs (bs : List Nat) : List Value := bs.map ptr
theorem ptrs_one (bs : List Nat) : ∀ u ∈ ptrs bs, u.oneCell' = true := by
  intro u hu
  obtain ⟨b, _, rfl⟩ := List.mem_map.1 hu
  rfl
theorem ptrs_len (bs : List Nat) : (ptrs bs).length = bs.length := by simp [ptrs]
theorem cell_own {w : World} {base : Nat} {e : TypeId} {s n : Nat} {v : Value} {us : List Value} (h : w.ownsRow base e s v n us) {j : Nat} {u : Value} (hu : us[j]? = some u) :
    ∃ g c, v = .slice (some ⟨g, 0, none⟩) n c ∧ g < w.heap.size ∧ w.cell? ⟨g, j, none⟩ = some u ∧ w.frozen? ⟨g, j, none⟩ = false := by
  obtain ⟨hj, _⟩ := List.getElem?_eq_some_iff.1 hu
  obtain ⟨h1, h2⟩ := h
  rcases h2 with ⟨rfl, rfl⟩ | ⟨g, cap, cur, rfl, hb, hh, hnc, hcm, hsz, ht⟩
  · omega
  · refine ⟨g, cap, rfl, blk_lt hh, ?_, by simp [World.frozen?, hh]⟩
    rw [cell_of_row _ _ _ _ _ _ hh, ← hu, ← ht, List.getElem?_take, if_pos (by omega)]
    simp
theorem form_own {w : World} {base : Nat} {e : TypeId} {s n : Nat} {v : Value} {us : List Value} (h : w.ownsRow base e s v n us) : ∃ A c, v = .slice A n c ∧ n ≤ c ∧ c ≤ 9223372036854775807 ∧ (A = none → c = 0) := by
  rcases h.2 with ⟨rfl, rfl⟩ | ⟨g, cap, cur, rfl, hb, hh, hnc, hcm, _⟩
  · exact ⟨none, 0, rfl, Nat.le_refl _, by decide, fun _ => rfl⟩
  · exact ⟨_, cap, rfl, hnc, by unfold maxLen at hcm; omega, fun e => by cases e⟩

/-! ### Nodes -/
abbrev tN : TypeId := 52
abbrev tP : TypeId := 45
abbrev tK : TypeId := 46
def Nod (w : World) (b : Nat) (vp vk : Value) (ps : List Pr) (bs : List Nat) : Prop :=
  Cel w b tN #[vp, vk] ∧ w.ownsRow 0 tP 2 vp ps.length (cellsP ps) ∧ w.ownsRow 0 tK 1 vk bs.length (ptrs bs) ∧ ∀ r ∈ ps, Key w r
theorem Nod.fr {F : List Nat} {w w' : World} {b : Nat} {vp vk : Value} {ps : List Pr} {bs : List Nat} (h : Nod w b vp vk ps bs) (hf : Fr F w w') (hb : b ∉ F) (hp : ∀ y ∈ blk vp, y ∉ F) (hk : ∀ y ∈ blk vk, y ∉ F) : Nod w' b vp vk ps bs :=
  ⟨hf.cel h.1 hb, hf.own h.2.1 hp, hf.own h.2.2.1 hk, fun r hr => hf.key (h.2.2.2 r hr)⟩
theorem Nod.below {w w' : World} {b : Nat} {vp vk : Value} {ps : List Pr} {bs : List Nat} (h : Nod w b vp vk ps bs) (hb : Below w.heap.size w w') : Nod w' b vp vk ps bs :=
  h.fr (Fr.of (F := []) hb) (by simp) (by simp) (by simp)
/-- A node's cells. -/
theorem Nod.open_ {w : World} {b : Nat} {vp vk : Value} {ps : List Pr} {bs : List Nat} (h : Nod w b vp vk ps bs) :
    ∃ A c A' c', vp = .slice A ps.length c ∧ vk = .slice A' bs.length c' ∧ (w.cell? ⟨b, 0, none⟩ = some (.slice A ps.length c) ∧ w.cell? ⟨b, 1, none⟩ = some (.slice A' bs.length c')) ∧ (w.frozen? ⟨b, 0, none⟩ = false ∧ w.frozen? ⟨b, 1, none⟩ = false) ∧
      (ps.length ≤ c ∧ c ≤ 9223372036854775807 ∧ (A = none → c = 0)) ∧ (bs.length ≤ c' ∧ c' ≤ 9223372036854775807 ∧ (A' = none → c' = 0)) := by
  obtain ⟨h1, h2, h3, _⟩ := h
  obtain ⟨A, c, rfl, e⟩ := form_own h2
  obtain ⟨A', c', rfl, e'⟩ := form_own h3
  exact ⟨A, c, A', c', rfl, rfl, ⟨h1.at_ 0, h1.at_ 1⟩, ⟨h1.open_ 0, h1.open_ 1⟩, e, e'⟩
/-- The child number k. -/
theorem Nod.kid {w : World} {b : Nat} {vp vk : Value} {ps : List Pr} {bs : List Nat} (h : Nod w b vp vk ps bs) {k x : Nat} (hk : bs[k]? = some x) :
    ∃ g c, vk = .slice (some ⟨g, 0, none⟩) bs.length c ∧ g < w.heap.size ∧ w.cell? ⟨g, k, none⟩ = some (.pointer (some ⟨x, 0, none⟩)) := by
  obtain ⟨g, c, e, hg, hc, _⟩ := cell_own h.2.2.1 (j := k) (u := ptr x) (by unfold ptrs; rw [List.getElem?_map, hk]; rfl)
  exact ⟨g, c, e, hg, hc⟩
/-- The pair number k. -/
theorem Nod.pair {w : World} {b : Nat} {vp vk : Value} {ps : List Pr} {bs : List Nat} (h : Nod w b vp vk ps bs) {k : Nat} {r : Pr} (hk : ps[k]? = some r) :
    ∃ g c, vp = .slice (some ⟨g, 0, none⟩) ps.length c ∧ g < w.heap.size ∧ w.cell? ⟨g, k * 2, none⟩ = some (.slice r.a r.key.length r.c) ∧ w.cell? ⟨g, k * 2 + 1, none⟩ = some (.int .i64 r.num) ∧ Key w r := by
  obtain ⟨e1, e2⟩ := cellsP_at hk
  obtain ⟨g, c, e, hg, hc, _⟩ := cell_own h.2.1 e1
  obtain ⟨g2, c2, e', _, hc2, _⟩ := cell_own h.2.1 e2
  rw [e] at e'
  injection e' with e3 _ _
  injection e3 with e3
  injection e3 with e3
  subst e3
  exact ⟨g, c, e, hg, hc, hc2, h.2.2.2 r (List.mem_of_getElem? hk)⟩
theorem own_lt {w : World} {base : Nat} {e : TypeId} {s n : Nat} {v : Value} {us : List Value} (h : w.ownsRow base e s v n us) : ∀ y ∈ blk v, y < w.heap.size := by
  intro y hy
  rcases h.2 with ⟨rfl, rfl⟩ | ⟨g, cap, cur, rfl, hb, hh, _⟩
  · simp [blk, Value.ownBlock] at hy
  · simp [blk, Value.ownBlock] at hy
    subst hy
    exact blk_lt hh

/-! ### Trees -/
def Rep (w : World) : ∀ d, Mt d → Prop
  | 0, e => nomatch e
  | d + 1, (m : Nd (Mt d)) => Nod w m.b m.vp m.vk m.ps (m.ks.map (bl d)) ∧ ∀ k ∈ m.ks, Rep w d k
theorem mem_foot {d : Nat} (m : Nd (Mt d)) (y : Nat) : y ∈ foot (d + 1) m ↔ y = m.b ∨ y ∈ blk m.vp ∨ y ∈ blk m.vk ∨ ∃ k ∈ m.ks, y ∈ foot d k := by
  show y ∈ m.b :: (blk m.vp ++ (blk m.vk ++ m.ks.flatMap (foot d))) ↔ _
  simp [List.mem_flatMap]
theorem Rep.fr {F : List Nat} {w w' : World} (hf : Fr F w w') : ∀ (d : Nat) (m : Mt d), Rep w d m → (∀ y ∈ foot d m, y ∉ F) → Rep w' d m
  | 0, e, _, _ => nomatch e
  | d + 1, (m : Nd (Mt d)), h, hF => by
    obtain ⟨h1, h2⟩ := (show Nod w m.b m.vp m.vk m.ps (m.ks.map (bl d)) ∧ ∀ k ∈ m.ks, Rep w d k from h)
    exact (show Nod w' m.b m.vp m.vk m.ps (m.ks.map (bl d)) ∧ ∀ k ∈ m.ks, Rep w' d k from
      ⟨h1.fr hf (hF _ ((mem_foot m _).2 (.inl rfl))) (fun y hy => hF y ((mem_foot m y).2 (.inr (.inl hy)))) (fun y hy => hF y ((mem_foot m y).2 (.inr (.inr (.inl hy))))),
        fun k hk => Rep.fr hf d k (h2 k hk) fun y hy => hF y ((mem_foot m y).2 (.inr (.inr (.inr ⟨k, hk, hy⟩))))⟩)
theorem Rep.below {w w' : World} (hb : Below w.heap.size w w') {d : Nat} {m : Mt d} (h : Rep w d m) : Rep w' d m := Rep.fr (Fr.of (F := []) hb) d m h (by simp)
theorem Rep.lt {w : World} : ∀ (d : Nat) (m : Mt d), Rep w d m → ∀ y ∈ foot d m, y < w.heap.size
  | 0, e, _ => nomatch e
  | d + 1, (m : Nd (Mt d)), h => by
    obtain ⟨h1, h2⟩ := (show Nod w m.b m.vp m.vk m.ps (m.ks.map (bl d)) ∧ ∀ k ∈ m.ks, Rep w d k from h)
    intro y hy
    rcases (mem_foot m y).1 hy with rfl | hy | hy | ⟨k, hk, hy⟩
    · exact blk_lt h1.1
    · exact own_lt h1.2.1 y hy
    · exact own_lt h1.2.2.1 y hy
    · exact Rep.lt d k (h2 k hk) y hy
theorem Rep.node {w : World} {d : Nat} {m : Mt (d + 1)} (h : Rep w (d + 1) m) : Nod w (nb m) (nvp m) (nvk m) (nps m) (nbs m) := h.1
theorem Rep.kids {w : World} {d : Nat} {m : Mt (d + 1)} (h : Rep w (d + 1) m) : ∀ k ∈ nks m, Rep w d k := h.2
theorem Rep.mk {w : World} {d : Nat} {m : Mt (d + 1)} (h : Nod w (nb m) (nvp m) (nvk m) (nps m) (nbs m)) (k : ∀ k ∈ nks m, Rep w d k) : Rep w (d + 1) m := ⟨h, k⟩
theorem in_foot {d : Nat} (m : Mt (d + 1)) (y : Nat) : y ∈ foot (d + 1) m ↔ y = nb m ∨ y ∈ blk (nvp m) ∨ y ∈ blk (nvk m) ∨ ∃ k ∈ nks m, y ∈ foot d k := mem_foot m y
theorem Rep.keys {w : World} : ∀ (d : Nat) (m : Mt d), Rep w d m → ∀ r ∈ prs d m, Key w r
  | 0, e, _ => nomatch e
  | d + 1, (m : Nd (Mt d)), h => by
    intro r hr
    rcases List.mem_append.1 (show r ∈ m.ps ++ m.ks.flatMap (prs d) from hr) with hr | hr
    · exact h.1.2.2.2 r hr
    · obtain ⟨k, hk, hr⟩ := List.mem_flatMap.1 hr
      exact Rep.keys d k (h.2 k hk) r hr
end Go.Proofs.Ytjlfacmmokfleaa.Bt
