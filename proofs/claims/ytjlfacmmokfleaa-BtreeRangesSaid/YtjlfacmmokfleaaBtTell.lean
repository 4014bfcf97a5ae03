/- What Range does with a pair: it takes a copy, as long as the key is ahead. -/
import Derived.Test.YtjlfacmmokfleaaBtApp
import Derived.Test.YtjlfacmmokfleaaBtClone
import Derived.Test.YtjlfacmmokfleaaBtCompare
import Derived.Test.YtjlfacmmokfleaaBtFind
import Derived.Test.YtjlfacmmokfleaaBtDo
import Derived.Deep.CutRange
namespace Go.Proofs.Ytjlfacmmokfleaa.Bt
open Go.RowKit Go.Proofs.Ytjlfacmmokfleaa.Mem Go.Proofs.Ytjlfacmmokfleaa.Right
set_option linter.unusedVariables false

abbrev tPs : TypeId := 37
/-- Is a pair still asked for. -/
def goR (all : Bool) (tt : List UInt8) (r : Pr) : Bool := all || klt r.key tt
/-- The pairs taken so far lie in variable lv as v. -/
structure Tl (w : World) (ab tx lv : Nat) (all : Bool) (B : Option Addr) (nB cB : Nat) (s : List Pr) (v : Value) (W : World) : Prop where
  old : Below w.heap.size w W
  ab_ : Cel W ab 4 #[.bool all]
  tx_ : Cel W tx 30 #[.slice B nB cB]
  lv_ : Cel W lv tPs #[v]
  new : w.heap.size ≤ lv
  own : W.ownsRow 0 tP 2 v s.length (cellsP s)
  fresh : NewRow w.heap.size v
  keys : ∀ r ∈ s, Key W r ∧ Fresh w.heap.size r
theorem Tl.below {w : World} {ab tx lv : Nat} {all : Bool} {B : Option Addr} {nB cB : Nat} {s : List Pr} {v : Value} {W W' : World} (h : Tl w ab tx lv all B nB cB s v W) (hb : Below W.heap.size W W') : Tl w ab tx lv all B nB cB s v W' :=
  ⟨h.old.trans (hb.mono h.old.size), h.ab_.below hb, h.tx_.below hb, h.lv_.below hb, h.new, own_below h.own hb, h.fresh, fun r hr => ⟨(h.keys r hr).1.below hb, (h.keys r hr).2⟩⟩
/-- What telling may turn. -/
def Til (lv : Nat) (v v' : Value) (W W' : World) : Prop := Fr (lv :: blk v) W W' ∧ (v'.ownBlock = v.ownBlock ∨ NewRow W.heap.size v')
theorem Til.refl (lv : Nat) (v : Value) (W : World) : Til lv v v W W := ⟨Fr.refl _ _, .inl rfl⟩
theorem Til.of {lv : Nat} {v : Value} {W W' : World} (h : Below W.heap.size W W') : Til lv v v W W' := ⟨Fr.of h, .inl rfl⟩
theorem Til.trans {lv : Nat} {v v' v'' : Value} {W W' W'' : World} (h : Til lv v v' W W') (k : Til lv v' v'' W' W'') : Til lv v v'' W W'' := by
  refine ⟨h.1.then_ k.1 (fun y hy => ?_), ?_⟩
  · rcases List.mem_cons.1 hy with rfl | hy
    · exact .inl (by simp)
    · rcases h.2 with e | e
      · exact .inl (by have := mem_blk.1 hy; rw [e] at this; simp [mem_blk.2 this])
      · exact .inr (e y (mem_blk.1 hy))
  · rcases k.2 with e | e
    · rcases h.2 with e2 | e2
      · exact .inl (e.trans e2)
      · exact .inr (fun g hg => e2 g (e ▸ hg))
    · exact .inr (fun g hg => Nat.le_trans h.1.size (e g hg))
theorem Til.cel {lv b : Nat} {v v' : Value} {W W' : World} {t : TypeId} {cs : Array Value} (h : Til lv v v' W W') (hc : Cel W b t cs) (hb : b ≠ lv) (hv : v.ownBlock ≠ some b) : Cel W' b t cs :=
  h.1.cel hc (fun e => by
    rcases List.mem_cons.1 e with e | e
    · exact hb e
    · exact hv (mem_blk.1 e))
def TellG (w W : World) (ab tx lv : Nat) (all : Bool) (B : Option Addr) (nB cB : Nat) (s : List Pr) (v : Value) (L : List Pr) (q : Bool) (e : Ending) (W' : World) : Prop :=
  e = .returned (.bool q) ∧ ∃ s' v', Tl w ab tx lv all B nB cB s' v' W' ∧ Til lv v v' W W' ∧ s'.map Pr.k = s.map Pr.k ++ L.map Pr.k
theorem cmp_go (l tt : List UInt8) : decide (0 ≤ cmpB l tt) = !klt l tt := by
  unfold cmpB
  cases h : klt l tt with
  | true => simp
  | false =>
    cases k : klt tt l with
    | true => simp
    | false => simp
theorem tell_end {w W TW w3 : World} {ab tx lv : Nat} {all : Bool} {B : Option Addr} {nB cB : Nat} {s : List Pr} {v v' : Value} {r' : Pr} (h : Tl w ab tx lv all B nB cB s v TW) (hb : Below W.heap.size W TW) (hk : Key TW r') (hf : Fresh w.heap.size r')
    (ho : w3.ownsRow 0 tP 2 v' (s.length + 1) (cellsP s ++ cells2 r')) (hg : TW.grownBy w3 v.ownBlock) (hn : v'.ownBlock = v.ownBlock ∨ NewRow TW.heap.size v') :
    Tl w ab tx lv all B nB cB (s ++ [r']) v' (w3.setCell ⟨lv, 0, none⟩ v') ∧ Til lv v v' W (w3.setCell ⟨lv, 0, none⟩ v') := by
  have hf1 := Fr.row h.own (by decide) hg
  have hlv : Cel w3 lv tPs #[v] := hf1.cel h.lv_ (fun e => own_cel h.own h.lv_ (by decide) (mem_blk.1 e))
  have hs : Fr [lv] w3 (w3.setCell ⟨lv, 0, none⟩ v') := Fr.set hlv (by decide) _
  have hfr : Fr (lv :: blk v) TW (w3.setCell ⟨lv, 0, none⟩ v') := (hf1.more (fun y hy => by simp [hy])).trans (hs.more (fun y hy => by simp at hy; simp [hy]))
  refine ⟨⟨?_, hfr.cel h.ab_ (fun e => ?_), hfr.cel h.tx_ (fun e => ?_), hlv.set 0 _, h.new, ?_, ?_, fun r hr => ?_⟩, (Fr.of hb).trans hfr, hn.imp id (fun e g hg => Nat.le_trans hb.size (e g hg))⟩
  · exact h.old.trans (hfr.below (fun y hy => by
      rcases List.mem_cons.1 hy with rfl | hy
      · exact h.new
      · exact h.fresh y (mem_blk.1 hy)) h.old.size)
  · rcases List.mem_cons.1 e with e | e
    · exact ne_cel h.ab_ h.lv_ (by decide) e
    · exact own_cel h.own h.ab_ (by decide) (mem_blk.1 e)
  · rcases List.mem_cons.1 e with e | e
    · exact ne_cel h.tx_ h.lv_ (by decide) e
    · exact own_cel h.own h.tx_ (by decide) (mem_blk.1 e)
  · have e1 : cellsP (s ++ [r']) = cellsP s ++ cells2 r' := by simp [cellsP]
    rw [e1, List.length_append, List.length_singleton]
    exact set_own ho hlv (by decide)
  · intro g hg
    rcases hn with e | e
    · exact h.fresh g (e ▸ hg)
    · exact Nat.le_trans h.old.size (e g hg)
  · rcases List.mem_append.1 hr with hr | hr
    · exact ⟨hfr.key (h.keys r hr).1, (h.keys r hr).2⟩
    · simp at hr
      subst hr
      exact ⟨hfr.key hk, hf⟩
set_option maxHeartbeats 4000000 in
theorem tell_any (w W : World) (ab tx lv : Nat) (all : Bool) (B : Option Addr) (nB cB : Nat) (tt : List UInt8) (s : List Pr) (v : Value) (r : Pr) (q : Bool) (h : Tl w ab tx lv all B nB cB s v W) (hto : Bs w B nB cB tt) (hr : KeyA W r) (hr2 : r.a = none → r.c = 0) (hr3 : r.key.length ≤ 1000) (hs : s.length ≤ 100000) (hq : goR all tt r = q) :
    Calls Try.prog 32 #[prv r, .pointer (some ⟨ab, 0, none⟩), .pointer (some ⟨tx, 0, none⟩), .pointer (some ⟨lv, 0, none⟩)] W (TellG w W ab tx lv all B nB cB s v (if q then [r] else []) q) := by
  have hB := al (Below.refl W.heap.size W) (.cells #[.slice r.a r.key.length r.c, .int .i64 r.num] tP)
  have H := Lib.hid (h.below hB)
  have HR := Lib.hid (hr.below hB)
  have HBX := Lib.hid (Cel.new W tP #[.slice r.a r.key.length r.c, .int .i64 r.num] rfl)
  have HTO := Lib.hid (hto.below (Mem.on h.old (hB.mono (Nat.le_refl _))))
  have HB := Lib.hid hB
  have HV := Lib.hid (fun z (hz : z ∈ blk v) => own_lt h.own z hz)
  clear h hto hr hB
  go_enter Try.func32, Try.ntmps32
  go_upto_region 1 with (fail)
  generalize W.alloc (.cells #[.slice r.a r.key.length r.c, .int .i64 r.num] tP) = W1 at H HR HBX HTO HB ⊢
  have a0 := H.out.ab_.at_ 0
  have x0 := H.out.tx_.at_ 0
  have p0 := HBX.out.at_ 0
  have p1 := HBX.out.at_ 1
  have HCM := Lib.hid (compare_any r.a B r.key.length nB r.c cB r.key tt W1 HR.out HTO.out)
  have HGO := Lib.hid (cmp_go r.key tt)
  cases q with
  | false =>
    have hall : all = false := by unfold goR at hq; cases all <;> simp_all
    subst hall
    have hk : klt r.key tt = false := by unfold goR at hq; simpa using hq
    have t1 : decide (0 ≤ cmpB r.key tt) = true := by rw [HGO.out, hk]; rfl
    have t2 : (0 : Int) ≤ cmpB r.key tt := of_decide_eq_true t1
    clear hq hk
    go_wp2_with (go_at_call 33; (with_reducible refine HCM.out.mono ?_); rintro e w1 ⟨rfl, rfl⟩)
    go_ret
    exact ⟨rfl, s, v, H.out, Til.of HB.out, by simp⟩
  | true =>
    have hstop : all = true ∨ (all = false ∧ ¬ (0 : Int) ≤ cmpB r.key tt) := by
      cases all with
      | true => exact .inl rfl
      | false =>
        right
        have hk : klt r.key tt = true := by unfold goR at hq; simpa using hq
        exact ⟨rfl, fun e => by have := HGO.out; rw [hk, decide_eq_true e] at this; cases this⟩
    clear hq
    go_cut [14] from 6 to 14 (fun c wx => c = .bool false ∧ wx = W1)
    case first =>
      rcases hstop with rfl | ⟨rfl, t2⟩
      · go_wp2
        go_meet
        exact ⟨rfl, rfl⟩
      · have t3 : decide (0 ≤ cmpB r.key tt) = false := decide_eq_false t2
        go_wp2_with (go_at_call 33; (with_reducible refine HCM.out.mono ?_); rintro e w1 ⟨rfl, rfl⟩)
        go_meet
        exact ⟨rfl, rfl⟩
    case rest =>
      obtain ⟨rfl, rfl⟩ := hcut
      clear a0 x0 hstop HCM HGO
      obtain ⟨A, c, ev, _⟩ := form_own H.out.own
      obtain ⟨n, hn⟩ : ∃ n, s.length = n := ⟨_, rfl⟩
      have HN := Lib.hid hn
      rw [hn] at ev
      have l0 : wc.cell? ⟨lv, 0, none⟩ = some (.slice A n c) := by rw [H.out.lv_.at_ 0, ev]; rfl
      have HEV := Lib.hid ev
      clear hn
      have HCL := Lib.hid (clone_any r.a r.key.length r.c r.key r.num wc.drew (HR.out.below (Below.refl _ _).drew) hr2 hr3)
      clear ev
      go_upto_region 3 with (fail)
      go_cut [] from 15 to 19 (fun wx => Hid (∃ s' v', Tl w ab tx lv all B nB cB s' v' wx ∧ Til lv v v' W wx ∧ s'.map Pr.k = s.map Pr.k ++ [r.k]))
      case first =>
        go_region_law (first | (go_simp; go_at_call 34; (with_reducible refine HCL.out.mono ?_); rintro e w2 ⟨A2, c2, rfl, hk2, hf2, hb2⟩; have HB2 := Lib.hid (undraw hb2); have HT2 := Lib.hid ((H.out.below (undraw hb2)).below (al (Below.refl _ _) (.cells #[.slice A2 r.key.length c2, .int .i64 r.num] tP))); have HK2 := Lib.hid (hk2.below (al (Below.refl _ _) (.cells #[.slice A2 r.key.length c2, .int .i64 r.num] tP))); have HF2 := Lib.hid hf2; have hl2 := H.out.lv_.below (undraw hb2); have l02 : w2.cell? ⟨lv, 0, none⟩ = some (.slice A n c) := (by rw [hl2.at_ 0, ← HEV.out]; rfl); have l03 : ∀ o : Obj, (w2.alloc o).cell? ⟨lv, 0, none⟩ = some (.slice A n c) := (fun o => by rw [(hl2.alloc o).at_ 0, ← HEV.out]; rfl); clear hl2 hk2 hf2 hb2) | (refine step_append_any elemP rfl (.tmp 15) (.tmp 18) rfl (v := .slice A n c) (n := n) (m := 1) (xs := cellsP s) (us := cells2 ⟨A2, c2, r.key, r.num⟩) (by simp [Act.eval]) (by simp [Act.eval]) (by rw [← HEV.out, ← HN.out]; exact HT2.out.own) ⟨rfl, .inr ⟨w2.heap.size, 1, _, rfl, Nat.zero_le _, heap_alloc_new w2 _, Nat.le_refl _, by decide, rfl, rfl⟩⟩ (cellsP_one [⟨A2, c2, r.key, r.num⟩]) (by have := HN.out; omega) (by have := HN.out; omega) (n + 1) rfl ?_; intro A3 c3 w3 HW3; have hl3 := grown_cel HT2.out.lv_ HW3.out.2.1 (by rw [← HEV.out]; exact own_cel HT2.out.own HT2.out.lv_ (by decide)); have l04 := hl3.at_ 0; have f04 := hl3.open_ 0; clear hl3))
        all_goals (go_wp2_with fail)
        all_goals go_meet
        all_goals exact Lib.hid (by
          obtain ⟨k1, k2, k3⟩ := HW3.out
          have := tell_end HT2.out (Mem.on (Mem.on HB.out HB2.out) (al (Below.refl _ _) _)) HK2.out (fun b o e => Nat.le_trans H.out.old.size (HF2.out b o e)) (v' := .slice A3 (n + 1) c3) (by rw [HN.out]; exact k1) (by rw [HEV.out]; exact k2) (by rw [HEV.out]; exact k3)
          exact ⟨_, _, this.1, this.2, by simp [Pr.k]⟩)
      case rest =>
        obtain ⟨s', v', k1, k2, k3⟩ := hcut.out
        go_wp2
        go_ret
        exact ⟨rfl, s', v', k1, k2, k3⟩
end Go.Proofs.Ytjlfacmmokfleaa.Bt
