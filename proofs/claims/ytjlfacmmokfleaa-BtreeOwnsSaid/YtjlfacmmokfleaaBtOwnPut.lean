/- Bytes of the call's own are put into the tree, and their like into the document's. -/
import Derived.Test.YtjlfacmmokfleaaBtTurn
namespace Go.Proofs.Ytjlfacmmokfleaa.Bt
open Go.RowKit Go.Proofs.Ytjlfacmmokfleaa.Mem Go.Proofs.Ytjlfacmmokfleaa.Right
set_option linter.unusedVariables false

/-- The block of a slice. -/
def Zb (A : Option Addr) (b : Nat) : Prop := ∃ o, A = some ⟨b, o, none⟩
theorem Kp.opn {n : Nat} {X : List Nat} {a b : World} (h : Kp n X a b) {r : Pr} (k : Opn a r) : Opn b r := fun g o e => by
  obtain ⟨cs, hc⟩ := k g o e
  exact ⟨cs, h.ty g cs _ _ hc (by decide)⟩
theorem both_spoil {w0 w W W2 : World} {tb rb n : Nat} {L L' : List Pr} {p : Kn} {q : Bool} {Z : Nat → Prop} (h3 : L.map Pr.k = L'.map Pr.k) (h4 : L.length ≤ n) (h5 : ∀ r ∈ L, Sml r) (hp : p.1.length ≤ 100 ∧ -9223372036854775808 ≤ p.2)
    (h1 : Kp w0.heap.size [rb] w W) (h1f : q = false → BT W w0.heap.size tb [rb] L) (h1t : q = true → ∃ r, r.k = p ∧ Fresh w.heap.size r ∧ BT W w0.heap.size tb [rb] (lo p L ++ r :: hi p L)) {e : Ending} (h2 : PutQ W w0.heap.size rb p L' q e W2)
    (hz : ∀ b, Z b → b < w.heap.size) (o1 : ∀ r ∈ L, Off Z r) (o2 : ∀ r ∈ L', Off Z r) (hb : Below w0.heap.size w0 W2) (hn : ∀ b, Z b → w0.heap.size ≤ b) (ht : ∀ b, Z b → ∃ cs fr, W2.heap[b]? = some (.cells cs 5 fr)) : Spoil w0 W2 tb rb (n + 1) Z := by
  obtain ⟨_, f, v', L2, r2, g1, g2⟩ := h2
  have hin : ∀ {L : List Pr} {r : Pr}, (∀ r ∈ L, Off Z r) → Off Z r → ∀ x ∈ lo p L ++ r :: hi p L, Off Z x := fun {L r} h hr x hx => by
    have e := lo_hi p L
    rcases List.mem_append.1 hx with hx | hx
    · exact h x (by rw [← e]; simp [hx])
    · rcases List.mem_cons.1 hx with rfl | hx
      · exact hr
      · exact h x (by rw [← e]; simp [hx])
  have hfr : ∀ {r : Pr} {w1 : World}, Fresh w1.heap.size r → w.heap.size ≤ w1.heap.size → Off Z r := fun {r w1} hf hs b o e hzb => by
    have h8 := hf b o e
    have h9 := hz b hzb
    omega
  refine ⟨?_, hb, hn, ht⟩
  cases q with
  | false =>
    have := g1 rfl
    subst this
    exact ⟨v', L, L2, (h1f rfl).fr f (fun y hy => hy), r2, h3, by omega, h5, o1, o2⟩
  | true =>
    obtain ⟨r, hr, hf, hb⟩ := h1t rfl
    obtain ⟨r', hr', hf', rfl⟩ := g2 rfl
    obtain ⟨i1, i2⟩ := lo_map (p := p) h3
    refine ⟨v', _, _, hb.fr f (fun y hy => hy), r2, ?_, by rw [go_len]; omega, go_small h5 (by rw [← hr] at hp; exact hp), hin o1 (hfr hf (Nat.le_refl _)), hin o2 (hfr hf' h1.below.size)⟩
    rw [List.map_append, List.map_cons, List.map_append, List.map_cons, i1, i2, hr, hr']
/-- Behind both Puts the bytes may be spoilt. -/
theorem own_put {w0 w W : World} {tb rb n : Nat} (h : Duo w w0.heap.size tb rb n) (hb0 : Below w0.heap.size w0 w) (hn : n ≤ 500) (hW : Below w.heap.size w W) {A1 : Option Addr} {c1 m : Nat} {l : List UInt8} {x : Int} (hm1 : l.length = m)
    (hk : Key W ⟨A1, c1, l, x⟩) (hf : Fresh w.heap.size ⟨A1, c1, l, x⟩) (hop : Opn W ⟨A1, c1, l, x⟩) {A : Option Addr} {c : Nat} (hp : Bs w0 A m c l) (hA : A = none → c = 0) (hm : m ≤ 100) (hx : -9223372036854775808 ≤ x) :
    ∃ q : Bool, ∀ W', Below W.heap.size W W' → Calls Try.prog 20 #[.pointer (some ⟨tb, 0, none⟩), .slice A1 m c1, .int .i64 x] W' fun e w' => e = .returned (.bool q) ∧ Below w0.heap.size w0 w' ∧
      Hid (∀ W3, Below w'.heap.size w' W3 → Calls Try.prog 21 #[.pointer (some ⟨rb, 0, none⟩), .slice A m c, .int .i64 x] W3 fun e' w2 => e' = .returned (.bool q) ∧ Below w0.heap.size w0 w2 ∧ Hid (Spoil w0 w2 tb rb (n + 1) (Zb A1) ∧ Rdb w2 A1 m)) := by
  subst hm1
  obtain ⟨v, L, L', h1, h2, h3, h4, h5⟩ := h.both
  have hB0 := Mem.on hb0 hW
  have hl := congrArg List.length h3
  simp at hl
  have hz : ∀ b, Zb A1 b → w.heap.size ≤ b := fun b ⟨o, e⟩ => hf b o e
  have hoff : ∀ r, Key w r → Off (Zb A1) r := fun r hr b o e hz' => by
    have h8 := hr.lt b o e
    have h9 := hz b hz'
    omega
  refine ⟨!has (l, x) L, fun W' hW' => ?_⟩
  have hb00 := Mem.on hB0 hW'
  have hkW := hk.below hW'
  refine (put_t W' w0.heap.size tb [rb] L A1 l.length c1 l x _ ((h1.below hW).below hW') hkW.1 hkW.2.2 (by omega) (by omega) rfl).mono ?_
  rintro e w' ⟨rfl, k1, k2, k3⟩
  refine ⟨rfl, hb00.trans k1.below, Lib.hid fun W3 hW3 => ?_⟩
  have hb3 := Mem.on (hb00.trans k1.below) hW3
  have hrt := (((h2.below hW).below hW').kp k1).below hW3
  refine (putR_t W3 w0.heap.size rb v L' A l.length c l x _ hrt (hp.below hb3) hA (by omega) (by omega) hb3.size (by rw [← has_map h3])).mono ?_
  intro e' w2 k4
  have hb2 : Below w0.heap.size w0 w2 := hb3.trans (k4.2.1.below (fun y hy => by rw [List.mem_singleton] at hy; subst hy; exact h2.rb_) hb3.size)
  have hk2 : Key w2 ⟨A1, c1, l, x⟩ := k4.2.1.key ((k1.key hkW).below hW3)
  have ho2 : Opn w2 ⟨A1, c1, l, x⟩ := k4.2.1.opn ((k1.opn (hop.below hW')).below hW3)
  refine ⟨k4.1, hb2, Lib.hid ⟨?_, Rdb.of hk2 ho2 rfl⟩⟩
  have k1' : Kp w0.heap.size [rb] W' W3 := k1.trans (Kp.of hW3 (hb00.trans k1.below).size)
  refine both_spoil h3 h4 h5 ⟨hm, hx⟩ k1' (fun e => (k2 e).below hW3) (fun e => ?_) k4 (fun b ⟨o, e⟩ => Nat.lt_of_lt_of_le (hk.lt b o e) hW'.size) (fun r hr => hoff r (h1.keys r hr)) (fun r hr => hoff r (h2.keys r hr)) hb2 (fun b hb => Nat.le_trans hb0.size (hz b hb)) (fun b ⟨o, e⟩ => ?_)
  · obtain ⟨r, e1, e2, e3⟩ := k3 e
    exact ⟨r, e1, e2, e3.below hW3⟩
  · obtain ⟨cs, hcs⟩ := ho2 b o e
    exact ⟨cs, _, hcs⟩
/-- Nothing is put: the bytes may be spoilt all the same. -/
theorem own_not {w0 w W : World} {tb rb n : Nat} (h : Duo w w0.heap.size tb rb n) (hb0 : Below w0.heap.size w0 w) (hW : Below w.heap.size w W) {A1 : Option Addr} {c1 m : Nat} {l : List UInt8} {x : Int} (hm1 : l.length = m)
    (hk : Key W ⟨A1, c1, l, x⟩) (hf : Fresh w.heap.size ⟨A1, c1, l, x⟩) (hop : Opn W ⟨A1, c1, l, x⟩) : Spoil w0 W tb rb (n + 1) (Zb A1) ∧ Rdb W A1 m := by
  refine ⟨(h.mono (Nat.le_succ n)).spoil hb0 hW (fun b ⟨o, e⟩ => hf b o e) (fun b ⟨o, e⟩ => ?_), Rdb.of hk hop hm1⟩
  obtain ⟨cs, hcs⟩ := hop b o e
  exact ⟨cs, _, hcs⟩
/-- What Range has handed out, to be spoilt. -/
structure Outs (w0 w : World) (tb rb n : Nat) (Z : Nat → Prop) (v : Value) (s : List Pr) : Prop where
  spoil : Spoil w0 w tb rb n Z
  row : w.ownsRow 0 tP 2 v s.length (cellsP s)
  rdb : ∀ r ∈ s, Rdb w r.a r.key.length
  in_ : ∀ r ∈ s, ∀ b o, r.a = some ⟨b, o, none⟩ → Z b
  len : ∀ r ∈ s, r.key.length ≤ 100
theorem Outs.drew {w0 w : World} {tb rb n : Nat} {Z : Nat → Prop} {v : Value} {s : List Pr} (h : Outs w0 w tb rb n Z v s) : Outs w0 w.drew tb rb n Z v s := ⟨h.spoil.drew, h.row, h.rdb, h.in_, h.len⟩
theorem Outs.set {w0 w : World} {tb rb n : Nat} {Z : Nat → Prop} {v : Value} {s : List Pr} (h : Outs w0 w tb rb n Z v s) {B : Nat} (hB : Z B) (i : Nat) (y : UInt8) : Outs w0 (w.setCell ⟨B, i, none⟩ (.int .u8 (y.toNat : Int))) tb rb n Z v s :=
  ⟨h.spoil.set hB i _, (By.set hB w i _).own h.spoil.typ h.row (by decide), fun r hr => (h.rdb r hr).set B i y, h.in_, h.len⟩
/-- The pair number k of those handed out. -/
theorem Outs.at_ {w0 w : World} {tb rb n : Nat} {Z : Nat → Prop} {v : Value} {s : List Pr} (h : Outs w0 w tb rb n Z v s) {k : Nat} (hk : k < s.length) :
    ∃ g c r, v = .slice (some ⟨g, 0, none⟩) s.length c ∧ s[k]? = some r ∧ r ∈ s ∧ ¬ Z g ∧ w.cell? ⟨g, k * 2, none⟩ = some (.slice r.a r.key.length r.c) := by
  obtain ⟨e1, _⟩ := cellsP_at (List.getElem?_eq_getElem hk)
  obtain ⟨g, c, e, hg, hc, _⟩ := cell_own h.row e1
  refine ⟨g, c, s[k], e, List.getElem?_eq_getElem hk, List.getElem_mem hk, fun hz => ?_, hc⟩
  obtain ⟨cs, fr, h2⟩ := h.spoil.typ g hz
  rcases h.row.2 with ⟨e3, h0⟩ | ⟨g3, cap, cur, e3, _, hh, _⟩
  · omega
  · rw [e] at e3
    injection e3 with e3 _ _
    injection e3 with e3
    injection e3 with e3 _
    subst e3
    have := h2.symm.trans hh
    injection this with this
    injection this with _ e4 _
    exact absurd e4 (by decide)
theorem Duo.outs {w wr : World} {tb rb n : Nat} (h : Duo wr w.heap.size tb rb n) (hn : n ≤ 400) (hB : Below w.heap.size w wr) (W : World) (hW : Below wr.heap.size wr W) :
    Calls Try.prog 14 #[.pointer (some ⟨tb, 0, none⟩), .slice none 0 0, .slice none 0 0, .bool true] W fun e w' => ∃ m A c s Z, s.length = m ∧ e = .returned (.slice A (m : Nat) c) ∧ m ≤ 400 ∧ m ≤ c ∧ (A = none → c = 0) ∧ Outs w w' tb rb n Z (.slice A m c) s := by
  obtain ⟨v, L, L', h1, h2, h3, h4, h5⟩ := h.both
  have hnil : Bs W none 0 0 [] := ⟨Row.none_, rfl, Nat.le_refl _, by decide⟩
  refine (range_o W w.heap.size tb [rb] L none none 0 0 0 0 [] [] true (h1.below hW) hnil hnil (by omega) (fun r hr => by have := (h5 r hr).1; omega)).mono ?_
  rintro e w' ⟨A3, c3, s, rfl, ⟨k1, k2, k3, k4⟩, k5, k6⟩
  have ht : (hi ([], minI) L).takeWhile (goR true []) = L := by
    rw [hi_min (fun r hr => (h5 r hr).2)]
    exact all_end (List.all_eq_true.2 (fun r _ => rfl))
  rw [ht] at k5
  have hsl : s.length = L.length := by have := congrArg List.length k5; simpa using this
  obtain ⟨A4, c4, e4, e5, _, e6⟩ := form_own k1
  injection e4 with e7 _ e8
  subst e7 e8
  refine ⟨s.length, A3, c3, s, fun b => ∃ r ∈ s, ∃ o, r.a = some ⟨b, o, none⟩, rfl, rfl, by omega, e5, e6, ⟨?_, k1, fun r hr => Rdb.of (k3 r hr).1 (k6 r hr) rfl, fun r hr b o e => ⟨r, hr, o, e⟩, fun r hr => ?_⟩⟩
  · refine (h.below hW).spoil (Mem.on hB hW) k4 (fun b ⟨r, hr, o, e⟩ => (k3 r hr).2 b o e) (fun b ⟨r, hr, o, e⟩ => ?_)
    obtain ⟨cs, hcs⟩ := k6 r hr b o e
    exact ⟨cs, _, hcs⟩
  · have h9 : r.k ∈ s.map Pr.k := List.mem_map.2 ⟨r, hr, rfl⟩
    rw [k5] at h9
    obtain ⟨y, hy, e2⟩ := List.mem_map.1 h9
    have e3 : y.key = r.key := congrArg Prod.fst e2
    rw [← e3]; exact (h5 y hy).1
theorem made_own {B : Nat} {W w' : World} {v : Value} {l : List UInt8} {n : Nat} (h : Made B W v l w') (hn : l.length = n) (x : Int) : ∃ A c, v = .slice A n c ∧ Key w' ⟨A, c, l, x⟩ ∧ Fresh B ⟨A, c, l, x⟩ ∧ Opn w' ⟨A, c, l, x⟩ := by
  subst hn
  exact made_open h x
theorem Spoil.below {w0 w w' : World} {tb rb n : Nat} {Z : Nat → Prop} (h : Spoil w0 w tb rb n Z) (hb : Below w.heap.size w w') : Spoil w0 w' tb rb n Z := by
  obtain ⟨u, L, L', h1, h2, h3⟩ := h.both
  refine ⟨⟨u, L, L', h1.below hb, h2.below hb, h3⟩, Mem.on h.old hb, h.new, fun b hz => ?_⟩
  obtain ⟨cs, fr, hc⟩ := h.typ b hz
  exact ⟨cs, fr, (hb.block b (blk_lt hc)).trans hc⟩
theorem Rdb.drewN {W : World} {A : Option Addr} {n : Nat} (h : Rdb W A n) (k : Nat) : Rdb (W.drewN k) A n := h
/-- The pair number k of those handed out, its key's bytes. -/
theorem Outs.at2 {w0 w : World} {tb rb n : Nat} {Z : Nat → Prop} {g m c : Nat} {s : List Pr} (h : Outs w0 w tb rb n Z (.slice (some ⟨g, 0, none⟩) m c) s) {k : Nat} {r : Pr} (hr : s[k]? = some r) {m2 : Nat} (hm2 : r.key.length = m2) :
    ∃ A6 c6, w.cell? ⟨g, k * 2, none⟩ = some (.slice A6 m2 c6) ∧ Rdb w A6 m2 ∧ ∀ b o, A6 = some ⟨b, o, none⟩ → Z b := by
  subst hm2
  have hk := (List.getElem?_eq_some_iff.1 hr).1
  obtain ⟨g', c', r', e, hr', hrs, _, hc⟩ := h.at_ hk
  injection e with e _ _
  injection e with e
  injection e with e
  subst e
  rw [hr] at hr'
  injection hr' with hr'
  subst hr'
  exact ⟨r.a, r.c, hc, h.rdb r hrs, h.in_ r hrs⟩
end Go.Proofs.Ytjlfacmmokfleaa.Bt
