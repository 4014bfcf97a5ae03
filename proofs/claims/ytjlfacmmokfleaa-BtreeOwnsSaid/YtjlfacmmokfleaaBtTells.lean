import Derived.Test.YtjlfacmmokfleaaBtClone
import Derived.Test.YtjlfacmmokfleaaBtApp
import Derived.Test.YtjlfacmmokfleaaBtCompare
import Derived.Test.YtjlfacmmokfleaaBtFind
import Derived.Test.YtjlfacmmokfleaaBtDo
import Derived.Deep.CutRange
import Derived.Test.YtjlfacmmokfleaaBtHas
import Derived.Test.YtjlfacmmokfleaaBtUser
/- A pair with a key of its own, that may be written. -/
namespace Go.Proofs.Ytjlfacmmokfleaa.Bt
open Go.RowKit Go.Proofs.Ytjlfacmmokfleaa.Mem Go.Proofs.Ytjlfacmmokfleaa.Right
set_option linter.unusedVariables false

/-- A pair whose key's block may be written. -/
def Opn (w : World) (r : Pr) : Prop := ∀ b o, r.a = some ⟨b, o, none⟩ → ∃ cs, w.heap[b]? = some (.cells cs 5 (0, 0))
theorem Fr.opn {F : List Nat} {a b : World} (h : Fr F a b) {r : Pr} (k : Opn a r) : Opn b r := fun g o e => by
  obtain ⟨cs, hc⟩ := k g o e
  exact ⟨cs, h.bytes g cs _ hc⟩
theorem Opn.below {w w' : World} {r : Pr} (h : Opn w r) (hb : Below w.heap.size w w') : Opn w' r := (Fr.of (F := []) hb).opn h
theorem made_open {B : Nat} {W w' : World} {v : Value} {l : List UInt8} (h : Made B W v l w') (x : Int) : ∃ A c, v = .slice A l.length c ∧ Key w' ⟨A, c, l, x⟩ ∧ Fresh B ⟨A, c, l, x⟩ ∧ Opn w' ⟨A, c, l, x⟩ := by
  obtain ⟨A, c, rfl, h1, h2⟩ := made_key h x
  refine ⟨A, c, rfl, h1, h2, fun b o e => ?_⟩
  rcases h.1.2 with ⟨e2, _⟩ | ⟨g, cap, cur, e2, hB, hh, _⟩
  · injection e2 with e2 _ _; have e : A = _ := e; rw [e] at e2; cases e2
  · injection e2 with e2 _ _
    have e : A = _ := e
    rw [e] at e2
    injection e2 with e2
    injection e2 with e2 _
    subst e2
    exact ⟨_, hh⟩
set_option maxHeartbeats 1000000 in
theorem clone_open (A : Option Addr) (n c : Nat) (l : List UInt8) (x : Int) (w : World) (h : Bs w A n c l) (hA : A = none → c = 0) (hn : n ≤ 1000) :
    Calls Try.prog 34 #[.agg #[.slice A n c, .int .i64 x]] w fun e w' => ∃ A' c', e = .returned (.agg #[.slice A' n c', .int .i64 x]) ∧ Key w' ⟨A', c', l, x⟩ ∧ Fresh w.heap.size ⟨A', c', l, x⟩ ∧ Opn w' ⟨A', c', l, x⟩ ∧ Below w.heap.size w w' := by
  have hl := h.2.1
  have hB0 : Below w.heap.size w ((w.alloc (.cells #[.slice A n c, .int .i64 x] tP)).alloc (.cells #[.slice none 0 0, .int .i64 0] tP)) := al (al (Below.refl _ _) _) _
  have HB0 := Lib.hid hB0
  have HA := Lib.hid (h.below hB0)
  have HP := Lib.hid ((Cel.new w tP #[.slice A n c, .int .i64 x] rfl).alloc (.cells #[.slice none 0 0, .int .i64 0] tP))
  have HZ := Lib.hid (Cel.new (w.alloc (.cells #[.slice A n c, .int .i64 x] tP)) tP #[.slice none 0 0, .int .i64 0] (B := w.heap.size + 1) (by simp))
  clear h hB0
  go_enter Try.func34, Try.ntmps34
  go_upto_region 1 with (fail)
  generalize ((w.alloc (.cells #[.slice A n c, .int .i64 x] tP)).alloc (.cells #[.slice none 0 0, .int .i64 0] tP)) = W at HB0 HA HP HZ ⊢
  have HC := Lib.hid (bclone_any A n c l W.drew (HA.out.below (Below.refl _ _).drew) hA hn)
  have HK := Lib.hid (show ∀ W2, Below W.drew.heap.size W.drew W2 → W2.cell? ⟨w.heap.size, 0, none⟩ = some (.slice A n c) ∧ W2.cell? ⟨w.heap.size, 1, none⟩ = some (.int .i64 x) from fun W2 hW => ⟨(HP.out.below (undraw hW)).at_ 0, (HP.out.below (undraw hW)).at_ 1⟩)
  have q0 := (HK.out W.drew (Below.refl _ _)).1
  have q1 := (HK.out W.drew (Below.refl _ _)).2
  go_region_held3 (fun W => W.cell? ⟨w.heap.size, 0, none⟩ = some (.slice A n c) ∧ W.cell? ⟨w.heap.size, 1, none⟩ = some (.int .i64 x))
    (first | go_keep | exact ⟨q0, q1⟩)
    (first | (go_simp; go_at_call 50; (with_reducible refine HC.out.mono ?_); rintro e w2 ⟨v2, rfl, hm2⟩; obtain ⟨A2, c2, rfl, hk2, hf2, ho2⟩ := made_open hm2 x; have HO2 := Lib.hid ho2; have HK2 := Lib.hid hk2; have HF2 := Lib.hid hf2; have HB2 := Lib.hid (undraw hm2.2.1); have HZ2 := Lib.hid (HZ.out.below (undraw hm2.2.1)); have v0 := HZ2.out.at_ 0; have v1 := HZ2.out.at_ 1; have f0 := HZ2.out.open_ 0; have f1 := HZ2.out.open_ 1; obtain ⟨q0, q1⟩ := HK.out w2 hm2.2.1; clear hm2 hk2 hf2 ho2))
  go_wp2
  refine bodyPost_ret (v := .agg #[.slice A2 l.length c2, .int .i64 x]) ?_ rfl ?_
  · rw [results_cell rfl]
    go_simp
  have hs := HB0.out.size
  have hg : W.heap.size ≤ w2.heap.size := HB2.out.size
  have hlt := HZ.out.lt
  have hb : Below W.heap.size w2 ((w2.setCell ⟨w.heap.size + 1, 0, none⟩ (.slice A2 l.length c2)).setCell ⟨w.heap.size + 1, 1, none⟩ (.int .i64 x)) → True := fun _ => trivial
  refine ⟨A2, c2, by rw [hl], (Fr.set (HZ2.out.set 0 _) (by decide) _).key ((Fr.set HZ2.out (by decide) _).key HK2.out), fun b o e => Nat.le_trans hs (HF2.out b o e), (Fr.set (HZ2.out.set 0 _) (by decide) _).opn ((Fr.set HZ2.out (by decide) _).opn HO2.out), ?_⟩
  exact (((on HB0.out HB2.out).setCell (p := ⟨w.heap.size + 1, 0, none⟩) (Nat.le_succ _) _).setCell (p := ⟨w.heap.size + 1, 1, none⟩) (Nat.le_succ _) _)
end Go.Proofs.Ytjlfacmmokfleaa.Bt
/- What Range does with a pair: it takes a copy, as long as the key is ahead. -/
namespace Go.Proofs.Ytjlfacmmokfleaa.Bt
open Go.RowKit Go.Proofs.Ytjlfacmmokfleaa.Mem Go.Proofs.Ytjlfacmmokfleaa.Right
set_option linter.unusedVariables false

abbrev tPs : TypeId := 37
/-- Is a pair still asked for. -/
def goR (all : Bool) (tt : List UInt8) (r : Pr) : Bool := all || klt r.key tt
/-- The pairs taken so far lie in variable lv as v. -/
structure Tl (w : World) (ab tx lv : Nat) (all : Bool) (B : Option Addr) (nB cB : Nat) (s : List Pr) (v : Value) (W : World) : Prop where
  old : Below w.heap.size w W
  ab_ : Cel W ab 4 #[.bool all]
  tx_ : Cel W tx 30 #[.slice B nB cB]
  lv_ : Cel W lv tPs #[v]
  new : w.heap.size ≤ lv
  own : W.ownsRow 0 tP 2 v s.length (cellsP s)
  fresh : NewRow w.heap.size v
  keys : ∀ r ∈ s, Key W r ∧ Fresh w.heap.size r
  opens : ∀ r ∈ s, Opn W r
theorem Tl.below {w : World} {ab tx lv : Nat} {all : Bool} {B : Option Addr} {nB cB : Nat} {s : List Pr} {v : Value} {W W' : World} (h : Tl w ab tx lv all B nB cB s v W) (hb : Below W.heap.size W W') : Tl w ab tx lv all B nB cB s v W' :=
  ⟨h.old.trans (hb.mono h.old.size), h.ab_.below hb, h.tx_.below hb, h.lv_.below hb, h.new, own_below h.own hb, h.fresh, fun r hr => ⟨(h.keys r hr).1.below hb, (h.keys r hr).2⟩, fun r hr => (h.opens r hr).below hb⟩
/-- What telling may turn. -/
def Til (lv : Nat) (v v' : Value) (W W' : World) : Prop := Fr (lv :: blk v) W W' ∧ (v'.ownBlock = v.ownBlock ∨ NewRow W.heap.size v')
theorem Til.refl (lv : Nat) (v : Value) (W : World) : Til lv v v W W := ⟨Fr.refl _ _, .inl rfl⟩
theorem Til.of {lv : Nat} {v : Value} {W W' : World} (h : Below W.heap.size W W') : Til lv v v W W' := ⟨Fr.of h, .inl rfl⟩
theorem Til.trans {lv : Nat} {v v' v'' : Value} {W W' W'' : World} (h : Til lv v v' W W') (k : Til lv v' v'' W' W'') : Til lv v v'' W W'' := by
  refine ⟨h.1.then_ k.1 (fun y hy => ?_), ?_⟩
  · rcases List.mem_cons.1 hy with rfl | hy
    · exact .inl (by simp)
    · rcases h.2 with e | e
      · exact .inl (by have := mem_blk.1 hy; rw [e] at this; simp [mem_blk.2 this])
      · exact .inr (e y (mem_blk.1 hy))
  · rcases k.2 with e | e
    · rcases h.2 with e2 | e2
      · exact .inl (e.trans e2)
      · exact .inr (fun g hg => e2 g (e ▸ hg))
    · exact .inr (fun g hg => Nat.le_trans h.1.size (e g hg))
theorem Til.cel {lv b : Nat} {v v' : Value} {W W' : World} {t : TypeId} {cs : Array Value} (h : Til lv v v' W W') (hc : Cel W b t cs) (hb : b ≠ lv) (hv : v.ownBlock ≠ some b) : Cel W' b t cs :=
  h.1.cel hc (fun e => by
    rcases List.mem_cons.1 e with e | e
    · exact hb e
    · exact hv (mem_blk.1 e))
def TellG (w W : World) (ab tx lv : Nat) (all : Bool) (B : Option Addr) (nB cB : Nat) (s : List Pr) (v : Value) (L : List Pr) (q : Bool) (e : Ending) (W' : World) : Prop :=
  e = .returned (.bool q) ∧ ∃ s' v', Tl w ab tx lv all B nB cB s' v' W' ∧ Til lv v v' W W' ∧ s'.map Pr.k = s.map Pr.k ++ L.map Pr.k
theorem cmp_go (l tt : List UInt8) : decide (0 ≤ cmpB l tt) = !klt l tt := by
  unfold cmpB
  cases h : klt l tt with
  | true => simp
  | false =>
    cases k : klt tt l with
    | true => simp
    | false => simp
theorem tell_end {w W TW w3 : World} {ab tx lv : Nat} {all : Bool} {B : Option Addr} {nB cB : Nat} {s : List Pr} {v v' : Value} {r' : Pr} (h : Tl w ab tx lv all B nB cB s v TW) (hb : Below W.heap.size W TW) (hk : Key TW r') (hf : Fresh w.heap.size r') (hop : Opn TW r')
    (ho : w3.ownsRow 0 tP 2 v' (s.length + 1) (cellsP s ++ cells2 r')) (hg : TW.grownBy w3 v.ownBlock) (hn : v'.ownBlock = v.ownBlock ∨ NewRow TW.heap.size v') :
    Tl w ab tx lv all B nB cB (s ++ [r']) v' (w3.setCell ⟨lv, 0, none⟩ v') ∧ Til lv v v' W (w3.setCell ⟨lv, 0, none⟩ v') := by
  have hf1 := Fr.row h.own (by decide) hg
  have hlv : Cel w3 lv tPs #[v] := hf1.cel h.lv_ (fun e => own_cel h.own h.lv_ (by decide) (mem_blk.1 e))
  have hs : Fr [lv] w3 (w3.setCell ⟨lv, 0, none⟩ v') := Fr.set hlv (by decide) _
  have hfr : Fr (lv :: blk v) TW (w3.setCell ⟨lv, 0, none⟩ v') := (hf1.more (fun y hy => by simp [hy])).trans (hs.more (fun y hy => by simp at hy; simp [hy]))
  refine ⟨⟨?_, hfr.cel h.ab_ (fun e => ?_), hfr.cel h.tx_ (fun e => ?_), hlv.set 0 _, h.new, ?_, ?_, fun r hr => ?_, fun r hr => ?_⟩, (Fr.of hb).trans hfr, hn.imp id (fun e g hg => Nat.le_trans hb.size (e g hg))⟩
  · exact h.old.trans (hfr.below (fun y hy => by
      rcases List.mem_cons.1 hy with rfl | hy
      · exact h.new
      · exact h.fresh y (mem_blk.1 hy)) h.old.size)
  · rcases List.mem_cons.1 e with e | e
    · exact ne_cel h.ab_ h.lv_ (by decide) e
    · exact own_cel h.own h.ab_ (by decide) (mem_blk.1 e)
  · rcases List.mem_cons.1 e with e | e
    · exact ne_cel h.tx_ h.lv_ (by decide) e
    · exact own_cel h.own h.tx_ (by decide) (mem_blk.1 e)
  · have e1 : cellsP (s ++ [r']) = cellsP s ++ cells2 r' := by simp [cellsP]
    rw [e1, List.length_append, List.length_singleton]
    exact set_own ho hlv (by decide)
  · intro g hg
    rcases hn with e | e
    · exact h.fresh g (e ▸ hg)
    · exact Nat.le_trans h.old.size (e g hg)
  · rcases List.mem_append.1 hr with hr | hr
    · exact ⟨hfr.key (h.keys r hr).1, (h.keys r hr).2⟩
    · simp at hr
      subst hr
      exact ⟨hfr.key hk, hf⟩
  · rcases List.mem_append.1 hr with hr | hr
    · exact hfr.opn (h.opens r hr)
    · simp at hr
      subst hr
      exact hfr.opn hop
set_option maxHeartbeats 4000000 in
theorem tell_any (w W : World) (ab tx lv : Nat) (all : Bool) (B : Option Addr) (nB cB : Nat) (tt : List UInt8) (s : List Pr) (v : Value) (r : Pr) (q : Bool) (h : Tl w ab tx lv all B nB cB s v W) (hto : Bs w B nB cB tt) (hr : KeyA W r) (hr2 : r.a = none → r.c = 0) (hr3 : r.key.length ≤ 1000) (hs : s.length ≤ 100000) (hq : goR all tt r = q) :
    Calls Try.prog 32 #[prv r, .pointer (some ⟨ab, 0, none⟩), .pointer (some ⟨tx, 0, none⟩), .pointer (some ⟨lv, 0, none⟩)] W (TellG w W ab tx lv all B nB cB s v (if q then [r] else []) q) := by
  have hB := al (Below.refl W.heap.size W) (.cells #[.slice r.a r.key.length r.c, .int .i64 r.num] tP)
  have H := Lib.hid (h.below hB)
  have HR := Lib.hid (hr.below hB)
  have HBX := Lib.hid (Cel.new W tP #[.slice r.a r.key.length r.c, .int .i64 r.num] rfl)
  have HTO := Lib.hid (hto.below (Mem.on h.old (hB.mono (Nat.le_refl _))))
  have HB := Lib.hid hB
  have HV := Lib.hid (fun z (hz : z ∈ blk v) => own_lt h.own z hz)
  clear h hto hr hB
  go_enter Try.func32, Try.ntmps32
  go_upto_region 1 with (fail)
  generalize W.alloc (.cells #[.slice r.a r.key.length r.c, .int .i64 r.num] tP) = W1 at H HR HBX HTO HB ⊢
  have a0 := H.out.ab_.at_ 0
  have x0 := H.out.tx_.at_ 0
  have p0 := HBX.out.at_ 0
  have p1 := HBX.out.at_ 1
  have HCM := Lib.hid (compare_any r.a B r.key.length nB r.c cB r.key tt W1 HR.out HTO.out)
  have HGO := Lib.hid (cmp_go r.key tt)
  cases q with
  | false =>
    have hall : all = false := by unfold goR at hq; cases all <;> simp_all
    subst hall
    have hk : klt r.key tt = false := by unfold goR at hq; simpa using hq
    have t1 : decide (0 ≤ cmpB r.key tt) = true := by rw [HGO.out, hk]; rfl
    have t2 : (0 : Int) ≤ cmpB r.key tt := of_decide_eq_true t1
    clear hq hk
    go_wp2_with (go_at_call 33; (with_reducible refine HCM.out.mono ?_); rintro e w1 ⟨rfl, rfl⟩)
    go_ret
    exact ⟨rfl, s, v, H.out, Til.of HB.out, by simp⟩
  | true =>
    have hstop : all = true ∨ (all = false ∧ ¬ (0 : Int) ≤ cmpB r.key tt) := by
      cases all with
      | true => exact .inl rfl
      | false =>
        right
        have hk : klt r.key tt = true := by unfold goR at hq; simpa using hq
        exact ⟨rfl, fun e => by have := HGO.out; rw [hk, decide_eq_true e] at this; cases this⟩
    clear hq
    go_cut [14] from 6 to 14 (fun c wx => c = .bool false ∧ wx = W1)
    case first =>
      rcases hstop with rfl | ⟨rfl, t2⟩
      · go_wp2
        go_meet
        exact ⟨rfl, rfl⟩
      · have t3 : decide (0 ≤ cmpB r.key tt) = false := decide_eq_false t2
        go_wp2_with (go_at_call 33; (with_reducible refine HCM.out.mono ?_); rintro e w1 ⟨rfl, rfl⟩)
        go_meet
        exact ⟨rfl, rfl⟩
    case rest =>
      obtain ⟨rfl, rfl⟩ := hcut
      clear a0 x0 hstop HCM HGO
      obtain ⟨A, c, ev, _⟩ := form_own H.out.own
      obtain ⟨n, hn⟩ : ∃ n, s.length = n := ⟨_, rfl⟩
      have HN := Lib.hid hn
      rw [hn] at ev
      have l0 : wc.cell? ⟨lv, 0, none⟩ = some (.slice A n c) := by rw [H.out.lv_.at_ 0, ev]; rfl
      have HEV := Lib.hid ev
      clear hn
      have HCL := Lib.hid (clone_open r.a r.key.length r.c r.key r.num wc.drew (HR.out.below (Below.refl _ _).drew) hr2 hr3)
      clear ev
      go_upto_region 3 with (fail)
      go_cut [] from 15 to 19 (fun wx => Hid (∃ s' v', Tl w ab tx lv all B nB cB s' v' wx ∧ Til lv v v' W wx ∧ s'.map Pr.k = s.map Pr.k ++ [r.k]))
      case first =>
        go_region_law (first | (go_simp; go_at_call 34; (with_reducible refine HCL.out.mono ?_); rintro e w2 ⟨A2, c2, rfl, hk2, hf2, ho2, hb2⟩; have HO2 := Lib.hid (ho2.below (al (Below.refl _ _) (.cells #[.slice A2 r.key.length c2, .int .i64 r.num] tP))); have HB2 := Lib.hid (undraw hb2); have HT2 := Lib.hid ((H.out.below (undraw hb2)).below (al (Below.refl _ _) (.cells #[.slice A2 r.key.length c2, .int .i64 r.num] tP))); have HK2 := Lib.hid (hk2.below (al (Below.refl _ _) (.cells #[.slice A2 r.key.length c2, .int .i64 r.num] tP))); have HF2 := Lib.hid hf2; have hl2 := H.out.lv_.below (undraw hb2); have l02 : w2.cell? ⟨lv, 0, none⟩ = some (.slice A n c) := (by rw [hl2.at_ 0, ← HEV.out]; rfl); have l03 : ∀ o : Obj, (w2.alloc o).cell? ⟨lv, 0, none⟩ = some (.slice A n c) := (fun o => by rw [(hl2.alloc o).at_ 0, ← HEV.out]; rfl); clear hl2 hk2 hf2 hb2 ho2) | (refine step_append_any elemP rfl (.tmp 15) (.tmp 18) rfl (v := .slice A n c) (n := n) (m := 1) (xs := cellsP s) (us := cells2 ⟨A2, c2, r.key, r.num⟩) (by simp [Act.eval]) (by simp [Act.eval]) (by rw [← HEV.out, ← HN.out]; exact HT2.out.own) ⟨rfl, .inr ⟨w2.heap.size, 1, _, rfl, Nat.zero_le _, heap_alloc_new w2 _, Nat.le_refl _, by decide, rfl, rfl⟩⟩ (cellsP_one [⟨A2, c2, r.key, r.num⟩]) (by have := HN.out; omega) (by have := HN.out; omega) (n + 1) rfl ?_; intro A3 c3 w3 HW3; have hl3 := grown_cel HT2.out.lv_ HW3.out.2.1 (by rw [← HEV.out]; exact own_cel HT2.out.own HT2.out.lv_ (by decide)); have l04 := hl3.at_ 0; have f04 := hl3.open_ 0; clear hl3))
        all_goals (go_wp2_with fail)
        all_goals go_meet
        all_goals exact Lib.hid (by
          obtain ⟨k1, k2, k3⟩ := HW3.out
          have := tell_end HT2.out (Mem.on (Mem.on HB.out HB2.out) (al (Below.refl _ _) _)) HK2.out (fun b o e => Nat.le_trans H.out.old.size (HF2.out b o e)) HO2.out (v' := .slice A3 (n + 1) c3) (by rw [HN.out]; exact k1) (by rw [HEV.out]; exact k2) (by rw [HEV.out]; exact k3)
          exact ⟨_, _, this.1, this.2, by simp [Pr.k]⟩)
      case rest =>
        obtain ⟨s', v', k1, k2, k3⟩ := hcut.out
        go_wp2
        go_ret
        exact ⟨rfl, s', v', k1, k2, k3⟩
end Go.Proofs.Ytjlfacmmokfleaa.Bt
/- What of a node's children is told. -/
namespace Go.Proofs.Ytjlfacmmokfleaa.Bt
open Go.RowKit Go.Proofs.Ytjlfacmmokfleaa.Mem Go.Proofs.Ytjlfacmmokfleaa.Right
set_option linter.unusedVariables false

theorem hi_none {p : Kn} {L : List Pr} (h : ∀ x ∈ L, ltb p x.k = true) : hi p L = L := by
  cases L with
  | nil => rfl
  | cons x t =>
    have := ltb_asymm (h x (by simp))
    simp [hi, this]
/-- What is told of the children from the one on the way on is what is told of the node. -/
theorem hi_kids {d : Nat} {p : Kn} {K1 K2 : List (Mt d)} {x : Mt d} (hA : ∀ a ∈ K1.flatMap (prs d), ltb a.k p = true) (hC : ∀ c ∈ K2.flatMap (prs d), ltb p c.k = true) :
    hi p (K1.flatMap (prs d) ++ prs d x ++ K2.flatMap (prs d)) = (x :: K2).flatMap (fun k => hi p (prs d k)) := by
  rw [(lo_local hA hC).2, List.flatMap_cons]
  congr 1
  induction K2 with
  | nil => rfl
  | cons y t ih =>
    rw [List.flatMap_cons, List.flatMap_cons, ← ih (fun c hc => hC c (by rw [List.flatMap_cons]; simp [hc])), hi_none (fun c hc => hC c (by rw [List.flatMap_cons]; simp [hc]))]
theorem take_flat {α β : Type} {K : List α} {f : α → List β} {j : Nat} {x : α} (h : K[j]? = some x) : (K.take (j + 1)).flatMap f = (K.take j).flatMap f ++ f x := by
  rw [List.take_add_one, h, List.flatMap_append]; simp
theorem flat_part {α β : Type} {K : List α} {f : α → List β} {j : Nat} {x : α} (h : K[j]? = some x) : K.flatMap f = (K.take j).flatMap f ++ f x ++ (K.drop (j + 1)).flatMap f := by
  obtain ⟨h1, h2⟩ := List.getElem?_eq_some_iff.1 h
  conv => lhs; rw [← List.take_append_drop j K, List.drop_eq_getElem_cons h1, h2]
  rw [List.flatMap_append, List.flatMap_cons, List.append_assoc]
theorem while_on {α : Type} {A B C : List α} {f : α → Bool} (hA : A.all f = true) (hB : B.all f = false) : (A ++ B ++ C).takeWhile f = A ++ B.takeWhile f ∧ (A ++ B ++ C).all f = false := by
  have h2 : ∀ x ∈ A, f x = true := List.all_eq_true.1 hA
  constructor
  · rw [List.append_assoc, List.takeWhile_append_of_pos h2]
    congr 1
    induction B with
    | nil => simp at hB
    | cons b t ih =>
      rw [List.cons_append, List.takeWhile_cons, List.takeWhile_cons]
      split
      · rename_i hb
        rw [ih (by simpa [hb] using hB)]
      · rfl
  · rw [List.all_append, List.all_append, hB]; simp
end Go.Proofs.Ytjlfacmmokfleaa.Bt
/- The pairs from one on are told, in order, as long as more are asked for. -/
namespace Go.Proofs.Ytjlfacmmokfleaa.Bt
open Go.RowKit Go.Proofs.Ytjlfacmmokfleaa.Mem Go.Proofs.Ytjlfacmmokfleaa.Right
set_option linter.unusedVariables false

theorem slice_any {P : Program} {t e : TypeId} {k bytes : Nat} (E : ElemN P t e k bytes) (A : Option Addr) (n c j : Nat) (hj : j ≤ n) (hc : n ≤ c) : ∃ A2, (∀ g, A = some ⟨g, 0, none⟩ → j < c → A2 = some ⟨g, j * k, none⟩) ∧ ∀ w : World, (Instr.sliceAt t (.slice A n c) (some (.int .i64 (j : Int))) none none).run P w = .ok (.slice A2 (n - j) (c - j)) w := by
  have hl := elem_run E
  have he : P.elem t = e := by simp [Program.elem, hl]
  refine ⟨if c = j then A else A.map (·.add (j * k)), fun g hA h => ?_, fun W => ?_⟩
  · rw [if_neg (by omega), hA]
    simp only [Option.map_some, Addr.add]
    split <;> simp_all
  · rw [run_sliceAt_slice W _ _ _ _ _ (by rw [he]; exact hl), run_slice_l W t _ n c (by rw [he]; exact hl) .i64 j (by omega) (by omega), he, size_run E]
    simp only [Result.andThen, sliced, Int.toNat_natCast]
theorem all_take {α : Type} {L : List α} {f : α → Bool} {k : Nat} {r : α} (h : (L.take k).all f = true) (hr : L[k]? = some r) (hf : f r = true) : (L.take (k + 1)).all f = true := by
  rw [List.take_add_one, hr, List.all_append, h]; simp [hf]
theorem stop_at {α : Type} {L : List α} {f : α → Bool} {k : Nat} {r : α} (h : (L.take k).all f = true) (hr : L[k]? = some r) (hf : f r = false) : L.takeWhile f = L.take k ∧ L.all f = false := by
  have e : L = L.take k ++ r :: L.drop (k + 1) := by
    obtain ⟨h1, h2⟩ := List.getElem?_eq_some_iff.1 hr
    rw [← h2, ← List.drop_eq_getElem_cons h1, List.take_append_drop]
  have h2 : ∀ x ∈ L.take k, f x = true := List.all_eq_true.1 h
  constructor
  · conv => lhs; rw [e]
    rw [List.takeWhile_append_of_pos h2, List.takeWhile_cons, if_neg (by rw [hf]; decide), List.append_nil]
  · rw [e, List.all_append, List.all_cons, hf]; simp
theorem all_end {α : Type} {L : List α} {f : α → Bool} (h : L.all f = true) : L.takeWhile f = L := by
  have h2 : ∀ x ∈ L, f x = true := List.all_eq_true.1 h
  have := List.takeWhile_append_of_pos (l₂ := []) h2
  simpa using this
/-- The box of the pair from which on it is told. -/
def Bp (b : Nat) (p : Pr) (v : Value) (W : World) : Prop := Cel W b tP #[.slice p.a p.key.length p.c, .int .i64 p.num] ∧ v.ownBlock ≠ some b
theorem Bp.til {b lv : Nat} {p : Pr} {v v' : Value} {W W' : World} (h : Bp b p v W) (ht : Til lv v v' W W') (hb : b ≠ lv) : Bp b p v' W' :=
  ⟨ht.cel h.1 hb h.2, fun e => by
    rcases ht.2 with e2 | e2
    · exact h.2 (e2 ▸ e)
    · have := e2 b e
      have := h.1.lt
      omega⟩
theorem Bp.below {b : Nat} {p : Pr} {v : Value} {W W' : World} (h : Bp b p v W) (hb : Below W.heap.size W W') : Bp b p v W' := ⟨h.1.below hb, h.2⟩
theorem tl_lt {w W : World} {ab tx lv : Nat} {all : Bool} {B : Option Addr} {nB cB : Nat} {s : List Pr} {v : Value} (h : Tl w ab tx lv all B nB cB s v W) (o : Obj) (p : Pr) (ho : o = .cells #[.slice p.a p.key.length p.c, .int .i64 p.num] tP) : Bp W.heap.size p v (W.alloc o) ∧ W.heap.size ≠ lv := by
  subst ho
  refine ⟨⟨Cel.new W tP _ rfl, fun e => ?_⟩, fun e => ?_⟩
  · have := own_lt h.own W.heap.size (mem_blk.2 e); omega
  · have := h.lv_.lt; omega
set_option maxRecDepth 100000 in
set_option maxHeartbeats 4000000 in
theorem each_leaf (w : World) (ab tx lv : Nat) (all : Bool) (B : Option Addr) (nB cB : Nat) (tt : List UInt8) (p : Pr) (hto : Bs w B nB cB tt) (hp : KeyA w p) (m : Mt 1) (W : World) (s : List Pr) (v : Value) (h : Tl w ab tx lv all B nB cB s v W) (hr : Rep w 1 m) (hs : sz 1 m ≤ 8) (hS : Sorted (prs 1 m)) (hk : ∀ r ∈ prs 1 m, r.key.length ≤ 1000)
    (L : List Pr) (hL : hi p.k (prs 1 m) = L) (hl : s.length + L.length ≤ 100000) (q : Bool) (hq : L.all (goR all tt) = q) :
    Calls Try.prog 31 #[.pointer (some ⟨nb m, 0, none⟩), prv p, .func (.func 32) #[] #[.pointer (some ⟨ab, 0, none⟩), .pointer (some ⟨tx, 0, none⟩), .pointer (some ⟨lv, 0, none⟩)]] W (TellG w W ab tx lv all B nB cB s v (L.takeWhile (goR all tt)) q) := by
  rw [prs_zero] at hS hk hL
  have hB := al (Below.refl W.heap.size W) (.cells #[.slice p.a p.key.length p.c, .int .i64 p.num] tP)
  have hWB := Mem.on h.old hB
  obtain ⟨k, hk2⟩ : ∃ k, (lo p.k (nps m)).length = k := ⟨_, rfl⟩
  have HF := Lib.hid (find_any (nb m) (nvp m) (nvk m) (nps m) (nbs m) p _ (hr.node.below hWB) (hp.below hWB) hS (by have h8 : sz 1 m = (nps m).length + (nks m).length := sz_eq m; omega) k _ hk2 rfl)
  have HB := Lib.hid hB
  have HBX := Lib.hid (tl_lt h _ p rfl).1
  have HLV := Lib.hid (tl_lt h _ p rfl).2
  have HT := Lib.hid (h.below hB)
  have hn8 : (nps m).length ≤ 8 := by
    have h8 : sz 1 m = (nps m).length + (nks m).length := sz_eq m
    omega
  have HN := Lib.hid hr.node
  have HNB := Lib.hid (nbs_zero m)
  have HP := Lib.hid hp
  have HTO := Lib.hid hto
  have HK := Lib.hid hk
  have HSL := Lib.hid hl
  have hLd : (nps m).drop k = L := by rw [← hL, hi_drop, hk2]
  have hkl : k ≤ (nps m).length := by
    have := congrArg List.length (lo_hi p.k (nps m))
    rw [List.length_append] at this
    omega
  have HLD := Lib.hid hLd
  have HQ := Lib.hid hq
  obtain ⟨A, c, A', c', ev, _, ⟨y0, _⟩, _, ⟨hnc, hc1, _⟩, _⟩ := hr.node.open_
  obtain ⟨n, hn⟩ : ∃ n, (nps m).length = n := ⟨_, rfl⟩
  rw [hn] at ev y0 hnc hkl hn8
  obtain ⟨A2, hA2, hs1⟩ := slice_any elemP A n c k hkl hnc
  have HA2 := Lib.hid hA2
  obtain ⟨n', hn'⟩ : ∃ n', n - k = n' := ⟨_, rfl⟩
  obtain ⟨c', hc'⟩ : ∃ c', c - k = c' := ⟨_, rfl⟩
  rw [hn', hc'] at hs1
  have HN' := Lib.hid hn'
  have hn9 : n' ≤ 8 := by omega
  clear hc' hn'
  have HEV := Lib.hid ev
  have HNN := Lib.hid hn
  have hbl : nb m < w.heap.size := blk_lt hr.node.1
  have HY := Lib.hid (show ∀ W', Below w.heap.size w W' → W'.cell? ⟨nb m, 0, none⟩ = some (.slice A n c) from fun W' hW => (hW.cell (p := ⟨nb m, 0, none⟩) hbl).trans y0)
  clear h hr hs hS hl hk hL hq hp hto hB hWB hk2 hLd ev hA2 y0
  go_enter Try.func31, Try.ntmps31
  go_upto_region 2 with (go_at_call 38; (with_reducible refine HF.out.mono ?_); rintro e w1 ⟨rfl, hb1⟩; have HB1 := Lib.hid hb1; clear hb1)
  have HT1 := Lib.hid (HT.out.below HB1.out)
  have HBX1 := Lib.hid (HBX.out.below HB1.out)
  have HW1 := Lib.hid (Mem.on HB.out HB1.out)
  have y0 := HY.out w1 HT1.out.old
  clear HF HT HBX HB HB1
  go_wp2
  go_loopw [26] (fun i wr => ∃ k' s' v', k' ≤ n' ∧ i = .int .i64 ((k' : Nat) : Int) ∧ Hid (Tl w ab tx lv all B nB cB s' v' wr ∧ Til lv v v' W wr ∧ s'.map Pr.k = s.map Pr.k ++ (L.take k').map Pr.k ∧ (L.take k').all (goR all tt) = true) ∧ Hid (Bp W.heap.size p v' wr)) (fun i _ => n' - (intOf i).toNat)
  case atStart => exact ⟨0, s, v, Nat.zero_le _, rfl, Lib.hid ⟨HT1.out, Til.of HW1.out, by simp, rfl⟩, HBX1⟩
  case round =>
    obtain ⟨j, s', v', hj, rfl, HR, HBP⟩ := hrel
    obtain ⟨r1, r2, r3, r4⟩ := HR.out
    have hN' := HN'.out
    by_cases hlt : j < n'
    · obtain ⟨r, hr⟩ : ∃ r, L[j]? = some r := ⟨_, List.getElem?_eq_getElem (by rw [← HLD.out, List.length_drop, HNN.out, hN']; exact hlt)⟩
      have hr' : (nps m)[k + j]? = some r := by rw [← HLD.out, List.getElem?_drop] at hr; exact hr
      obtain ⟨g, c2, e2, hg, c0, c1, hkr⟩ := HN.out.pair hr'
      rw [HEV.out] at e2
      injection e2 with e2 e3 e4
      subst e2 e4
      have hA := HA2.out g rfl (by omega)
      subst hA
      have hgc : ∀ W', Below w.heap.size w W' → W'.cell? ⟨g, k * 2 + j * 2, none⟩ = some (.slice r.a r.key.length r.c) ∧ W'.cell? ⟨g, k * 2 + j * 2 + 1, none⟩ = some (.int .i64 r.num) := fun W' hW => by
        rw [show k * 2 + j * 2 = (k + j) * 2 by omega]
        exact ⟨(hW.cell (p := ⟨g, (k + j) * 2, none⟩) hg).trans c0, (hW.cell (p := ⟨g, (k + j) * 2 + 1, none⟩) hg).trans c1⟩
      obtain ⟨d0, d1⟩ := hgc wr r1.old
      have t1 : (j : Int) < (n' : Int) := by omega
      clear hN'
      obtain ⟨x, hx⟩ : ∃ x, goR all tt r = x := ⟨_, rfl⟩
      have hlen : s'.length ≤ 100000 := by
        have h1 := congrArg List.length r3
        rw [List.length_map, List.length_append, List.length_map, List.length_map, List.length_take] at h1
        have h2 := HSL.out
        omega
      have hal := al (Below.refl wr.heap.size wr) (.cells #[.slice r.a r.key.length r.c, .int .i64 r.num] tP)
      have HTE := Lib.hid (tell_any w (wr.alloc (.cells #[.slice r.a r.key.length r.c, .int .i64 r.num] tP)) ab tx lv all B nB cB tt s' v' r x (r1.below hal) HTO.out (hkr.a.below (Mem.on r1.old hal)) hkr.2.2 (HK.out r (List.mem_of_getElem? hr')) hlen hx)
      have HAL := Lib.hid hal
      have HX := Lib.hid hx
      have HRR := Lib.hid hr
      clear hr hr' hg c0 c1 hkr hgc r1 r2 r3 r4 hlen hal hx e3
      cases x with
      | true =>
        go_wp2_with (go_at_call 32; (with_reducible refine HTE.out.mono ?_); rintro e w3 ⟨rfl, s3, v3, k1, k2, k3⟩; have HS3 := Lib.hid (show _ ∧ _ ∧ _ from ⟨k1, k2, k3⟩); clear k1 k2 k3)
        go_roundw
        case rel =>
          obtain ⟨k1, k2, k3⟩ := HS3.out
          obtain ⟨r1, r2, r3, r4⟩ := HR.out
          exact ⟨j + 1, s3, v3, by omega, by go_num, Lib.hid ⟨k1, (r2.trans (Til.of HAL.out)).trans k2, by
            rw [k3, r3, List.take_add_one, HRR.out]; simp, all_take r4 HRR.out HX.out⟩, Lib.hid ((HBP.out.below HAL.out).til k2 HLV.out)⟩
        case measure => simp [intOf]; omega
      | false =>
        go_wp2_with (go_at_call 32; (with_reducible refine HTE.out.mono ?_); rintro e w3 ⟨rfl, s3, v3, k1, k2, k3⟩; have HS3 := Lib.hid (show _ ∧ _ ∧ _ from ⟨k1, k2, k3⟩); clear k1 k2 k3)
        go_ret
        obtain ⟨k1, k2, k3⟩ := HS3.out
        obtain ⟨r1, r2, r3, r4⟩ := HR.out
        obtain ⟨z1, z2⟩ := stop_at r4 HRR.out HX.out
        exact ⟨by rw [← HQ.out, z2]; rfl, s3, v3, k1, (r2.trans (Til.of HAL.out)).trans k2, by rw [k3, r3, z1]; simp⟩
    · have hjn : j = n' := by omega
      have hLl : L.length = n' := by rw [← HLD.out, List.length_drop, HNN.out, hN']
      have hLt : L.take j = L := List.take_of_length_le (by omega)
      rw [hLt] at r3 r4
      have hq : true = q := by rw [← HQ.out, r4]
      have HE := Lib.hid (all_end r4)
      have HR3 := Lib.hid r3
      have HQ2 := Lib.hid hq
      have hnw := HN.out.below r1.old
      obtain ⟨Ax, cx, Ay, cy, _, ey, ⟨_, z1⟩, _⟩ := hnw.open_
      rw [HNB.out, List.length_nil] at z1
      obtain ⟨A3, _, hs2⟩ := slice_any elemK Ay 0 cy 0 (Nat.le_refl _) (Nat.zero_le _)
      simp only [Nat.sub_zero, Int.ofNat_zero] at hs2
      have HWN := Lib.hid (show ∀ W', Below wr.heap.size wr W' → Calls Try.prog 48 #[.pointer (some ⟨nb m, 0, none⟩), prv p] W' fun e w' => e = .returned (.int .i64 0) ∧ Below wr.heap.size wr w' from fun W' hW => by
        have := hnw.below hW
        rw [HNB.out] at this
        exact (way_none (nb m) (nvp m) (nvk m) (nps m) p W' this).mono fun _ _ ⟨h1, h2⟩ => ⟨h1, Mem.on hW h2⟩)
      have HK := Lib.hid (show ∀ W', Below wr.heap.size wr W' → (W'.cell? ⟨W.heap.size, 0, none⟩ = some (.slice p.a p.key.length p.c) ∧ W'.cell? ⟨W.heap.size, 1, none⟩ = some (.int .i64 p.num)) ∧ W'.cell? ⟨nb m, 1, none⟩ = some (.slice Ay 0 cy) from fun W' hW => ⟨⟨(HBP.out.below hW).1.at_ 0, (HBP.out.below hW).1.at_ 1⟩, (hW.cell (p := ⟨nb m, 1, none⟩) (blk_lt hnw.1)).trans z1⟩)
      clear r1 r2 r3 r4 hq hnw ey hLt hLl hN' y0
      go_upto_region 8 with (fail)
      refine wp_region_quiet (C := fun w' => Below wr.heap.size wr w') (by kernel_rfl) (by kernel_rfl) (Below.refl _ _).drew ?_
      repeat (first | (refine BigFrame.wpQuiet_skip rfl ?_; simp only [Act.put, List.setIfInBounds_toArray, List.set_cons_zero, List.set_cons_succ]) | (refine BigFrame.wpQuiet_want rfl (fun K hK => ?_); refine quietC_val ?_; apply Exists.intro; refine ⟨fun W hW => ?_, hK _ ?_⟩; (focus (obtain ⟨⟨q0, q1⟩, q2⟩ := HK.out W hW; go_simp; first | done | rfl)); clear hK K; simp only [Act.put, List.setIfInBounds_toArray, List.set_cons_zero, List.set_cons_succ]) | (quiet_step ((intro hW; first | (go_at_call 48; exact HWN.out _ hW)))))
      refine wpQuiet_nil ?_
      intro W9 hw9
      have HW9 := Lib.hid hw9
      clear hw9
      go_wp2
      refine wp_loop_rounds 1 ?_
      rw [rounds_succ]
      go_wp2
      go_ret
      obtain ⟨r1, r2, r3, r4⟩ := HR.out
      exact ⟨by rw [HQ2.out]; rfl, s', v', r1.below HW9.out, r2.trans (Til.of HW9.out), by rw [HR3.out, HE.out]⟩
end Go.Proofs.Ytjlfacmmokfleaa.Bt
/- The pairs from one on are told: of any node. -/
namespace Go.Proofs.Ytjlfacmmokfleaa.Bt
open Go.RowKit Go.Proofs.Ytjlfacmmokfleaa.Mem Go.Proofs.Ytjlfacmmokfleaa.Right
set_option linter.unusedVariables false

set_option maxRecDepth 100000 in
set_option maxHeartbeats 4000000 in
theorem each_any (w : World) (ab tx lv : Nat) (all : Bool) (B : Option Addr) (nB cB : Nat) (tt : List UInt8) (p : Pr) (hto : Bs w B nB cB tt) (hp : KeyA w p) : ∀ (d : Nat) (m : Mt (d + 1)) (W : World) (s : List Pr) (v : Value), Tl w ab tx lv all B nB cB s v W → Rep w (d + 1) m → Inn (d + 1) m → (d ≠ 0 → 1 ≤ sz (d + 1) m) → sz (d + 1) m ≤ 8 → Sorted (prs (d + 1) m) → (∀ r ∈ prs (d + 1) m, r.key.length ≤ 1000) →
    ∀ (L : List Pr), hi p.k (prs (d + 1) m) = L → s.length + L.length ≤ 100000 → ∀ q : Bool, L.all (goR all tt) = q →
    Calls Try.prog 31 #[.pointer (some ⟨nb m, 0, none⟩), prv p, .func (.func 32) #[] #[.pointer (some ⟨ab, 0, none⟩), .pointer (some ⟨tx, 0, none⟩), .pointer (some ⟨lv, 0, none⟩)]] W (TellG w W ab tx lv all B nB cB s v (L.takeWhile (goR all tt)) q)
  | 0, m, W, s, v, h, hr, hi_, _, hs, hS, hk, L, hL, hl, q, hq => each_leaf w ab tx lv all B nB cB tt p hto hp m W s v h hr hs hS hk L hL hl q hq
  | d + 1, m, W, s, v, h, hr, hi_, hs0, hs, hS, hk, L, hL, hl, q, hq => by
    have hs1 : 1 ≤ sz (d + 2) m := hs0 (by omega)
    have hs8 : sz (d + 2) m ≤ 8 := hs
    have hB := al (Below.refl W.heap.size W) (.cells #[.slice p.a p.key.length p.c, .int .i64 p.num] tP)
    have hWB := Mem.on h.old hB
    have hps : nps m = [] := hi_.1 (by omega)
    obtain ⟨K1, x0, K2, hks, hk1, hx0, hpr, hA, hC⟩ := way_kid (p := p.k) hi_ hs1 hS
    have hL2 : L = (x0 :: K2).flatMap (fun k => hi p.k (prs (d + 1) k)) := by rw [← hL, hpr]; exact hi_kids hA hC
    obtain ⟨j, hj⟩ : ∃ j, wayN m p.k = j := ⟨_, rfl⟩
    rw [hj] at hk1
    have hdrop : (nks m).drop j = x0 :: K2 := by rw [hks]; exact List.drop_left' hk1
    obtain ⟨K, hK⟩ : ∃ K, x0 :: K2 = K := ⟨_, rfl⟩
    rw [hK] at hL2 hdrop
    have HF := Lib.hid (find_any (nb m) (nvp m) (nvk m) (nps m) (nbs m) p _ (hr.node.below hWB) (hp.below hWB) (by rw [hps]; exact List.Pairwise.nil) (by rw [hps]; simp) 0 false (by rw [hps]; rfl) (by rw [hps]; rfl))
    have HB := Lib.hid hB
    have HBX := Lib.hid (tl_lt h _ p rfl).1
    have HLV := Lib.hid (tl_lt h _ p rfl).2
    have HT := Lib.hid (h.below hB)
    have HR := Lib.hid hr
    have HP := Lib.hid hp
    have HTO := Lib.hid hto
    have HKEY := Lib.hid hk
    have HI := Lib.hid hi_
    have HS := Lib.hid hS
    have HSL := Lib.hid hl
    have HQ := Lib.hid hq
    have HL2 := Lib.hid hL2
    have HDR := Lib.hid hdrop
    have HJ := Lib.hid hj
    have HPS := Lib.hid hps
    obtain ⟨Ap, cp, A, c, evp, ev, ⟨y0, y1⟩, _, ⟨hpc1, hpc2, _⟩, ⟨hnc, hc1, _⟩⟩ := hr.node.open_
    rw [hps, List.length_nil] at y0 hpc1
    rw [nbs_len] at ev y1 hnc
    obtain ⟨n, hn⟩ : ∃ n, (nks m).length = n := ⟨_, rfl⟩
    have hn8 : n ≤ 8 := by have h8 := sz_eq m; rw [hps] at h8; simp at h8; omega
    have hjn : j ≤ n := by rw [← hn, hks, List.length_append]; omega
    rw [hn] at ev y1 hnc
    obtain ⟨Ap2, _, hs1s⟩ := slice_any elemP Ap 0 cp 0 (Nat.le_refl _) (Nat.zero_le _)
    simp only [Nat.sub_zero, Int.ofNat_zero] at hs1s
    obtain ⟨A2, hA2, hs2s⟩ := slice_any elemK A n c j hjn hnc
    obtain ⟨n', hn'⟩ : ∃ n', n - j = n' := ⟨_, rfl⟩
    obtain ⟨c', hc'⟩ : ∃ c', c - j = c' := ⟨_, rfl⟩
    rw [hn', hc'] at hs2s
    have hKl : K.length = n' := by rw [← hdrop, List.length_drop, hn, hn']
    have HKL := Lib.hid hKl
    have HA2 := Lib.hid hA2
    have HEV := Lib.hid ev
    have hn9 : n' ≤ 8 := by omega
    have hjn' : 0 < n' := by rw [← hKl, ← hK]; simp
    have HN' := Lib.hid hn'
    have hbl : nb m < w.heap.size := blk_lt hr.node.1
    have HY := Lib.hid (show ∀ W', Below w.heap.size w W' → W'.cell? ⟨nb m, 0, none⟩ = some (.slice Ap 0 cp) ∧ W'.cell? ⟨nb m, 1, none⟩ = some (.slice A n c) from fun W' hW => ⟨(hW.cell (p := ⟨nb m, 0, none⟩) hbl).trans y0, (hW.cell (p := ⟨nb m, 1, none⟩) hbl).trans y1⟩)
    have HWF := Lib.hid (show ∀ W', Below w.heap.size w W' → Calls Try.prog 48 #[.pointer (some ⟨nb m, 0, none⟩), prv p] W' fun e w' => e = .returned (.int .i64 (j : Int)) ∧ Below W'.heap.size W' w' from fun W' hW => by
      rw [← hj]
      exact (way_fix d m p W' W' (Rep.below hW hr) hi_ hs1 (by omega) hS (hp.below hW) (Below.refl _ _)))
    have HKM := Lib.hid (show ∀ i x, K[i]? = some x → (nks m)[j + i]? = some x from fun i x hx => by rw [← hdrop, List.getElem?_drop] at hx; exact hx)
    clear h hr hi_ hs0 hs hS hk hL hl hq hp hto hB hWB hps hks hk1 hx0 hpr hA hC hL2 hj hdrop evp ev y0 y1 hn' hc' hKl hA2 hs1 hs8 hn hK
    go_enter Try.func31, Try.ntmps31
    go_upto_region 2 with (go_at_call 38; (with_reducible refine HF.out.mono ?_); rintro e w1 ⟨rfl, hb1⟩; have HB1 := Lib.hid hb1; clear hb1)
    have HT1 := Lib.hid (HT.out.below HB1.out)
    have HBX1 := Lib.hid (HBX.out.below HB1.out)
    have HW1 := Lib.hid (Mem.on HB.out HB1.out)
    obtain ⟨y0, y1⟩ := HY.out w1 HT1.out.old
    clear HF HT HBX HB HB1
    go_wp2
    refine wp_loop_rounds 1 ?_
    rw [rounds_succ]
    go_wp2
    have HK := Lib.hid (show ∀ W', Below w1.heap.size w1 W' → (W'.cell? ⟨W.heap.size, 0, none⟩ = some (.slice p.a p.key.length p.c) ∧ W'.cell? ⟨W.heap.size, 1, none⟩ = some (.int .i64 p.num)) ∧ W'.cell? ⟨nb m, 1, none⟩ = some (.slice A n c) from fun W' hW => ⟨⟨(HBX1.out.below hW).1.at_ 0, (HBX1.out.below hW).1.at_ 1⟩, (HY.out W' (Mem.on HT1.out.old hW)).2⟩)
    have HWN := Lib.hid (show ∀ W', Below w1.heap.size w1 W' → Calls Try.prog 48 #[.pointer (some ⟨nb m, 0, none⟩), prv p] W' fun e w' => e = .returned (.int .i64 (j : Int)) ∧ Below w1.heap.size w1 w' from fun W' hW => (HWF.out W' (Mem.on HT1.out.old hW)).mono fun _ _ ⟨h1, h2⟩ => ⟨h1, Mem.on hW h2⟩)
    refine wp_region_quiet (C := fun w' => Below w1.heap.size w1 w') (by kernel_rfl) (by kernel_rfl) (Below.refl _ _).drew ?_
    repeat (first | (refine BigFrame.wpQuiet_skip rfl ?_; simp only [Act.put, List.setIfInBounds_toArray, List.set_cons_zero, List.set_cons_succ]) | (refine BigFrame.wpQuiet_want rfl (fun K hK => ?_); refine quietC_val ?_; apply Exists.intro; refine ⟨fun W hW => ?_, hK _ ?_⟩; (focus (obtain ⟨⟨q0, q1⟩, q2⟩ := HK.out W hW; go_simp; first | done | rfl)); clear hK K; simp only [Act.put, List.setIfInBounds_toArray, List.set_cons_zero, List.set_cons_succ]) | (quiet_step ((intro hW; first | (go_at_call 48; exact HWN.out _ hW)))))
    refine wpQuiet_nil ?_
    intro W9 hw9
    have HW9 := Lib.hid hw9
    clear hw9
    clear y0 y1
    go_wp2
    go_loopw [44] (fun i wr => ∃ i' s' v', i' ≤ n' ∧ i = .int .i64 ((i' : Nat) : Int) ∧ Hid (Tl w ab tx lv all B nB cB s' v' wr ∧ Til lv v v' W wr ∧ s'.map Pr.k = s.map Pr.k ++ ((K.take i').flatMap (fun k => hi p.k (prs (d + 1) k))).map Pr.k ∧ ((K.take i').flatMap (fun k => hi p.k (prs (d + 1) k))).all (goR all tt) = true) ∧ Hid (Bp W.heap.size p v' wr)) (fun i _ => n' - (intOf i).toNat)
    case atStart => exact ⟨0, s, v, Nat.zero_le _, rfl, Lib.hid ⟨HT1.out.below HW9.out, Til.of (Mem.on HW1.out HW9.out), by simp, rfl⟩, Lib.hid (HBX1.out.below HW9.out)⟩
    case round =>
      obtain ⟨i, s', v', hin, rfl, HRR, HBP⟩ := hrel
      obtain ⟨r1, r2, r3, r4⟩ := HRR.out
      by_cases hlt : i < n'
      · obtain ⟨x, hx⟩ : ∃ x, K[i]? = some x := ⟨_, List.getElem?_eq_getElem (by rw [HKL.out]; exact hlt)⟩
        have hx2 := HKM.out i x hx
        have hxin : x ∈ nks m := List.mem_of_getElem? hx2
        obtain ⟨g, c2, e2, _, hcells⟩ := kid_at HR.out hx2
        rw [HEV.out] at e2
        injection e2 with e2 e3 e4
        subst e2 e4
        have hN' := HN'.out
        have hA := HA2.out g rfl (by omega)
        rw [Nat.mul_one] at hA
        subst hA
        obtain ⟨_, d0⟩ := hcells wr r1.old
        have t1 : (i : Int) < (n' : Int) := by omega
        have hfp := flat_part (f := fun k => hi p.k (prs (d + 1) k)) hx
        have hlen : s'.length + (hi p.k (prs (d + 1) x)).length ≤ 100000 := by
          have h1 := congrArg List.length r3
          rw [List.length_map, List.length_append, List.length_map, List.length_map] at h1
          have h2 := HSL.out
          rw [HL2.out, hfp, List.length_append, List.length_append] at h2
          omega
        have hxi := HI.out.2 x hxin
        have hSx : Sorted (prs (d + 1) x) := by
          have h1 := HS.out
          rw [prs_eq, HPS.out, List.nil_append, flat_part (f := prs (d + 1)) hx2] at h1
          exact h1.left.right
        obtain ⟨y, hy⟩ : ∃ y, (hi p.k (prs (d + 1) x)).all (goR all tt) = y := ⟨_, rfl⟩
        have HIH := Lib.hid (each_any w ab tx lv all B nB cB tt p HTO.out HP.out d x wr s' v' r1 (HR.out.kids x hxin) hxi.1 (fun _ => by have := hxi.2.1; omega) hxi.2.2 hSx (fun r hr => HKEY.out r (by rw [prs_eq]; exact List.mem_append_right _ (List.mem_flatMap.2 ⟨x, hxin, hr⟩))) _ rfl hlen y hy)
        have p0 := HBP.out.1.at_ 0
        have p1 := HBP.out.1.at_ 1
        have HFP := Lib.hid hfp
        have HXX := Lib.hid hx
        have HYY := Lib.hid hy
        clear r1 r2 r3 r4 hx hx2 hxin hcells hN' hfp hlen hxi hSx hy e3
        cases y with
        | true =>
          go_wp2_with (go_at_call 31; (with_reducible refine HIH.out.mono ?_); rintro e w3 ⟨rfl, s3, v3, k1, k2, k3⟩; have HS3 := Lib.hid (show _ ∧ _ ∧ _ from ⟨k1, k2, k3⟩); clear k1 k2 k3)
          go_roundw
          case rel =>
            obtain ⟨k1, k2, k3⟩ := HS3.out
            obtain ⟨r1, r2, r3, r4⟩ := HRR.out
            exact ⟨i + 1, s3, v3, by omega, by go_num, Lib.hid ⟨k1, r2.trans k2, by
              rw [k3, r3, take_flat HXX.out, all_end HYY.out]; simp, by rw [take_flat HXX.out, List.all_append, r4, HYY.out]; rfl⟩, Lib.hid (HBP.out.til k2 HLV.out)⟩
          case measure => simp [intOf]; omega
        | false =>
          go_wp2_with (go_at_call 31; (with_reducible refine HIH.out.mono ?_); rintro e w3 ⟨rfl, s3, v3, k1, k2, k3⟩; have HS3 := Lib.hid (show _ ∧ _ ∧ _ from ⟨k1, k2, k3⟩); clear k1 k2 k3)
          go_ret
          obtain ⟨k1, k2, k3⟩ := HS3.out
          obtain ⟨r1, r2, r3, r4⟩ := HRR.out
          obtain ⟨z1, z2⟩ := while_on (C := (K.drop (i + 1)).flatMap (fun k => hi p.k (prs (d + 1) k))) r4 HYY.out
          rw [← HFP.out, ← HL2.out] at z1 z2
          exact ⟨by rw [← HQ.out, z2]; rfl, s3, v3, k1, r2.trans k2, by rw [k3, r3, z1]; simp⟩
      · have hi9 : i = n' := by omega
        have hKt : K.take i = K := List.take_of_length_le (by rw [HKL.out]; omega)
        rw [hKt, ← HL2.out] at r3 r4
        have hq : true = q := by rw [← HQ.out, r4]
        have HE := Lib.hid (all_end r4)
        have HR3 := Lib.hid r3
        have HQ2 := Lib.hid hq
        clear r1 r2 r3 r4 hq hKt
        go_wp2
        go_ret
        obtain ⟨r1, r2, r3, r4⟩ := HRR.out
        exact ⟨by rw [HQ2.out]; rfl, s', v', r1, r2, by rw [HR3.out, HE.out]⟩
end Go.Proofs.Ytjlfacmmokfleaa.Bt
/- A tree: Range. -/
namespace Go.Proofs.Ytjlfacmmokfleaa.Bt
open Go.RowKit Go.Proofs.Ytjlfacmmokfleaa.Mem Go.Proofs.Ytjlfacmmokfleaa.Right
set_option linter.unusedVariables false

/-- Pairs handed out: a list of the call's own, with keys of their own. -/
def OutL (w W : World) (v : Value) (s : List Pr) : Prop := W.ownsRow 0 tP 2 v s.length (cellsP s) ∧ NewRow w.heap.size v ∧ (∀ r ∈ s, Key W r ∧ Fresh w.heap.size r) ∧ Below w.heap.size w W
def minI : Int := -9223372036854775808
def RangeG (w : World) (all : Bool) (f tt : List UInt8) (L : List Pr) (e : Ending) (w' : World) : Prop :=
  ∃ A c s, e = .returned (.slice A s.length c) ∧ OutL w w' (.slice A s.length c) s ∧ s.map Pr.k = ((hi (f, minI) L).takeWhile (goR all tt)).map Pr.k
/-- The same, and the keys may be written. -/
def RangeO (w : World) (all : Bool) (f tt : List UInt8) (L : List Pr) (e : Ending) (w' : World) : Prop :=
  ∃ A c s, e = .returned (.slice A s.length c) ∧ OutL w w' (.slice A s.length c) s ∧ s.map Pr.k = ((hi (f, minI) L).takeWhile (goR all tt)).map Pr.k ∧ ∀ r ∈ s, Opn w' r
set_option maxHeartbeats 2000000 in
theorem range_o (w : World) (n₀ tb : Nat) (X : List Nat) (L : List Pr) (A B : Option Addr) (n c nB cB : Nat) (f tt : List UInt8) (all : Bool) (h : BT w n₀ tb X L) (hf : Bs w A n c f) (ht : Bs w B nB cB tt) (hl : L.length ≤ 1000) (hk : ∀ r ∈ L, r.key.length ≤ 1000) :
    Calls Try.prog 14 #[.pointer (some ⟨tb, 0, none⟩), .slice A n c, .slice B nB cB, .bool all] w (RangeO w all f tt L) := by
  obtain ⟨d, m, h1, h2, h3, h4, h5, h6⟩ := h
  obtain rfl := hf.2.1
  have hb1 := al (Below.refl w.heap.size w) (.cells #[.slice B nB cB] 30)
  have hb2 := al hb1 (.cells #[.bool all] 4)
  have hb3 := al hb2 (.cells #[.slice none 0 0] tPs)
  have htl : Tl w (w.heap.size + 1) w.heap.size (w.heap.size + 2) all B nB cB [] (.slice none 0 0) (((w.alloc (.cells #[.slice B nB cB] 30)).alloc (.cells #[.bool all] 4)).alloc (.cells #[.slice none 0 0] tPs)) :=
    ⟨hb3, (Cel.new _ 4 #[.bool all] (by simp)).alloc _, ((Cel.new w 30 #[.slice B nB cB] rfl).alloc _).alloc _, Cel.new _ tPs #[.slice none 0 0] (by simp), by omega, World.ownsRow_nil _ _ _ _, fun g hg => by simp [Value.ownBlock] at hg, fun r hr => by simp at hr, fun r hr => by simp at hr⟩
  have HM := Lib.hid (fun (W : World) (hW : Below w.heap.size w W) => made_any tb (nb m) W ((h1.cel.below hW).at_ 0))
  have HEA := Lib.hid (show Calls Try.prog 31 #[.pointer (some ⟨nb m, 0, none⟩), .agg #[.slice A f.length c, .int .i64 (-9223372036854775808)], .func (.func 32) #[] #[.pointer (some ⟨w.heap.size + 1, 0, none⟩), .pointer (some ⟨w.heap.size, 0, none⟩), .pointer (some ⟨w.heap.size + 2, 0, none⟩)]] _ (TellG w _ (w.heap.size + 1) w.heap.size (w.heap.size + 2) all B nB cB [] (.slice none 0 0) ((hi (f, minI) (prs (d + 1) m)).takeWhile (goR all tt)) ((hi (f, minI) (prs (d + 1) m)).all (goR all tt))) from
    each_any w (w.heap.size + 1) w.heap.size (w.heap.size + 2) all B nB cB tt ⟨A, c, f, minI⟩ ht hf d m _ [] (.slice none 0 0) htl h1.rep h1.inn (fun e => by have := h1.two e; omega) h1.le h1.sorted (by rw [h2]; exact hk) _ rfl (by
      have e1 : (hi (f, minI) (prs (d + 1) m)).length ≤ (prs (d + 1) m).length := by
        have e3 := congrArg List.length (lo_hi (f, minI) (prs (d + 1) m))
        rw [List.length_append] at e3
        omega
      have e2 : (hi (Pr.k ⟨A, c, f, minI⟩) (prs (d + 1) m)).length ≤ (prs (d + 1) m).length := e1
      rw [h2] at e2 ⊢
      simp
      omega) _ rfl)
  have HT := Lib.hid (h1.below hb3)
  have H2 := Lib.hid h2
  clear h1 h2 h3 h4 h5 h6 hf ht hl hk hb1 hb2 hb3
  have HTL := Lib.hid htl
  clear htl
  go_enter Try.func14, Try.ntmps14
  go_upto_region 4 with (go_at_call 24; (with_reducible refine (HM.out _ (al (al (Below.refl _ _) _) _)).mono ?_); rintro e w1 ⟨rfl, rfl⟩)
  have y0 := HT.out.cel.at_ 0
  go_wp2_with (go_at_call 31; (with_reducible refine HEA.out.mono ?_); rintro e w2 ⟨rfl, s, v, k1, k2, k3⟩; have HK1 := Lib.hid k1; have HK3 := Lib.hid k3; obtain ⟨A3, c3, rfl, _⟩ := form_own k1.own; have l0 := k1.lv_.at_ 0; clear k1 k2 k3)
  go_ret
  refine ⟨A3, c3, s, rfl, ⟨HK1.out.own, HK1.out.fresh, HK1.out.keys, HK1.out.old⟩, ?_, HK1.out.opens⟩
  rw [← H2.out]
  simpa using HK3.out
theorem range_t (w : World) (n₀ tb : Nat) (X : List Nat) (L : List Pr) (A B : Option Addr) (n c nB cB : Nat) (f tt : List UInt8) (all : Bool) (h : BT w n₀ tb X L) (hf : Bs w A n c f) (ht : Bs w B nB cB tt) (hl : L.length ≤ 1000) (hk : ∀ r ∈ L, r.key.length ≤ 1000) :
    Calls Try.prog 14 #[.pointer (some ⟨tb, 0, none⟩), .slice A n c, .slice B nB cB, .bool all] w (RangeG w all f tt L) :=
  (range_o w n₀ tb X L A B n c nB cB f tt all h hf ht hl hk).mono fun e w' ⟨A, c, s, h1, h2, h3, _⟩ => ⟨A, c, s, h1, h2, h3⟩
theorem range_none (w : World) (A B : Option Addr) (n c nB cB : Nat) (all : Bool) (p : Option Addr) (hp : p = none ∨ ∃ tb, p = some ⟨tb, 0, none⟩ ∧ w.cell? ⟨tb, 0, none⟩ = some (.pointer none) ∧ tb < w.heap.size) :
    Calls Try.prog 14 #[.pointer p, .slice A n c, .slice B nB cB, .bool all] w fun e w' => e = .returned (.slice none 0 0) ∧ Below w.heap.size w w' := by
  have hb2 := al (al (Below.refl w.heap.size w) (.cells #[.slice B nB cB] 30)) (.cells #[.bool all] 4)
  have HM := Lib.hid (show Calls Try.prog 24 #[.pointer p] ((w.alloc (.cells #[.slice B nB cB] 30)).alloc (.cells #[.bool all] 4)) fun e w' => e = .returned (.bool false) ∧ w' = (w.alloc (.cells #[.slice B nB cB] 30)).alloc (.cells #[.bool all] 4) from by
    rcases hp with rfl | ⟨tb, rfl, h, hl⟩
    · exact made_none _
    · exact made_zero tb _ ((hb2.cell (p := ⟨tb, 0, none⟩) hl).trans h))
  have HB := Lib.hid hb2
  clear hp hb2
  go_enter Try.func14, Try.ntmps14
  go_wp2_with (go_at_call 24; (with_reducible refine HM.out.mono ?_); rintro e w1 ⟨rfl, rfl⟩)
  go_ret
  exact ⟨rfl, HB.out⟩
end Go.Proofs.Ytjlfacmmokfleaa.Bt
