/- The document's come, a kind at a time: registrarref16.come. -/
import Derived.Test.YtciclpbbegkpcaaGreatDoorKc29
namespace Go.Proofs.YtciclpbbegkpcaaGreatDoor.Eo
open Go.RowKit Go.Proofs.YtciclpbbegkpcaaGreatDoor.Mem Go.Proofs.YtciclpbbegkpcaaGreatDoor.Right Go.Proofs.YtciclpbbegkpcaaGreatDoor.Lx Go.Proofs.YtciclpbbegkpcaaGreatDoor.Ep Go.Proofs.YtciclpbbegkpcaaGreatDoor.Ev
set_option linter.unusedVariables false
set_option linter.unusedSimpArgs false
set_option maxRecDepth 20000 in
set_option maxHeartbeats 1000000 in
theorem come_lit (g : GS) (o vk vn : Int) (vs : List UInt8) (nm : ByteArray) (A : Option Addr) (n c : Nat) (w : World) : Calls Tryz.prog 42 #[.agg #[.int .i64 1, .int .i64 o, .int .i64 vk, .int .i64 vn, .string (txt vs), .string nm, .slice A n c], .slice g.A1 g.n1 g.c1, .slice g.A2 g.n2 g.c2] w (ValE w (⟨vk, vn, vs⟩, 0)) := by
  go_enter Tryz.func42, Tryz.ntmps42
  go_wp2
  (try simp only [Exit.inBlock, Exit.then])
  refine bodyPost_ret (v := .tuple #[.agg #[.int .i64 vk, .int .i64 vn, .string (txt vs)], .int .i64 0]) (by simp [results, Tryz.results42, go_sem]) rfl ?_
  exact ⟨by rfl, al (al (Below.refl _ _) _) _⟩
set_option maxRecDepth 20000 in
set_option maxHeartbeats 1000000 in
theorem come_col (g : GS) (o vk vn : Int) (vs nm : ByteArray) (A : Option Addr) (n c : Nat) (w : World) : Calls Tryz.prog 42 #[.agg #[.int .i64 2, .int .i64 o, .int .i64 vk, .int .i64 vn, .string vs, .string nm, .slice A n c], .slice g.A1 g.n1 g.c1, .slice g.A2 g.n2 g.c2] w (ValE w (nul, 4)) := by
  go_enter Tryz.func42, Tryz.ntmps42
  go_wp2
  (try simp only [Exit.inBlock, Exit.then])
  refine bodyPost_ret (v := .tuple #[.agg #[.int .i64 0, .int .i64 0, .string ⟨#[]⟩], .int .i64 4]) (by simp [results, Tryz.results42, go_sem]) rfl ?_
  exact ⟨by rfl, al (al (Below.refl _ _) _) _⟩
set_option maxRecDepth 20000 in
set_option maxHeartbeats 1000000 in
theorem come_slot (g : GS) (o vk vn : Int) (vs nm : ByteArray) (A : Option Addr) (n c : Nat) (w : World) (h1 : 0 ≤ o) (hG : GIn w w.heap.size g) : Calls Tryz.prog 42 #[.agg #[.int .i64 8, .int .i64 o, .int .i64 vk, .int .i64 vn, .string vs, .string nm, .slice A n c], .slice g.A1 g.n1 g.c1, .slice g.A2 g.n2 g.c2] w (ValE w (valAt (g.row.map vv) o)) := by
  have HB := Lib.hid (al (al (Below.refl w.heap.size w) (.cells #[.int .i64 8, .int .i64 o, .int .i64 vk, .int .i64 vn, .string vs, .string nm, .slice A n c] 26)) (.cells #[.int .i64 0, .int .i64 0, .string ⟨#[]⟩] 23))
  by_cases hlt : o < g.n1
  · obtain ⟨j, rfl⟩ : ∃ j : Nat, o = (j : Int) := ⟨o.toNat, by omega⟩
    obtain ⟨b, p, v, hA, hb, hv, c0, c1, c2⟩ := hG.row.at_ (k := j) (by have := hG.n1; omega)
    have HV := Lib.hid (valAt_some hv)
    have d0 := (HB.out.cell (p := ⟨b, p + j * 3, none⟩) hb).trans c0
    have d1 := (HB.out.cell (p := ⟨b, p + j * 3 + 1, none⟩) hb).trans c1
    have d2 := (HB.out.cell (p := ⟨b, p + j * 3 + 2, none⟩) hb).trans c2
    have hm := hG.few.1
    obtain ⟨A1, hA1⟩ : ∃ A1, g.A1 = A1 := ⟨_, rfl⟩
    obtain ⟨m, hmm⟩ : ∃ m, g.n1 = m := ⟨_, rfl⟩
    rw [hA1] at hA ⊢
    rw [hmm] at hlt hm ⊢
    subst hA
    have t1 : decide ((j : Int) < (m : Int)) = true := decide_eq_true (by omega)
    have hlt2 : j < m := by omega
    have hbw : ¬ b = w.heap.size := by omega
    have hbw2 : ¬ b = w.heap.size + 1 := by omega
    clear hG hv hA1 hmm
    go_enter Tryz.func42, Tryz.ntmps42
    go_wp2
    (try simp only [Exit.inBlock, Exit.then])
    refine bodyPost_ret (v := .tuple #[.agg #[.int .i64 v.k, .int .i64 v.n, .string v.s], .int .i64 0]) (by simp [results, Tryz.results42, go_sem]) rfl ?_
    exact ⟨by rw [HV.out]; rfl, al (al (Below.refl _ _) _) _⟩
  · have HV := Lib.hid (valAt_none (vs := g.row) (i := o) (by have := hG.n1; omega))
    have t1 : decide (o < (g.n1 : Int)) = false := decide_eq_false (by omega)
    clear hG
    go_enter Tryz.func42, Tryz.ntmps42
    go_wp2
    (try simp only [Exit.inBlock, Exit.then])
    refine bodyPost_ret (v := .tuple #[.agg #[.int .i64 0, .int .i64 0, .string ⟨#[]⟩], .int .i64 37]) (by simp [results, Tryz.results42, go_sem]) rfl ?_
    exact ⟨by rw [HV.out]; rfl, al (al (Below.refl _ _) _) _⟩
set_option maxRecDepth 20000 in
set_option maxHeartbeats 1000000 in
theorem come_par (g : GS) (o vk vn : Int) (vs nm : ByteArray) (A : Option Addr) (n c : Nat) (w : World) (h1 : 1 ≤ o) (h2 : o ≤ 6) (hG : GIn w w.heap.size g) : Calls Tryz.prog 42 #[.agg #[.int .i64 3, .int .i64 o, .int .i64 vk, .int .i64 vn, .string vs, .string nm, .slice A n c], .slice g.A1 g.n1 g.c1, .slice g.A2 g.n2 g.c2] w (ValE w (valAt (g.prs.map vv) (o - 1))) := by
  have HB := Lib.hid (al (al (Below.refl w.heap.size w) (.cells #[.int .i64 3, .int .i64 o, .int .i64 vk, .int .i64 vn, .string vs, .string nm, .slice A n c] 26)) (.cells #[.int .i64 0, .int .i64 0, .string ⟨#[]⟩] 23))
  by_cases hlt : o ≤ g.n2
  · obtain ⟨j, rfl⟩ : ∃ j : Nat, o = (j : Int) + 1 := ⟨(o - 1).toNat, by omega⟩
    obtain ⟨b, p, v, hA, hb, hv, c0, c1, c2⟩ := hG.prs.at_ (k := j) (by have := hG.n2; omega)
    have HV := Lib.hid (show valAt (g.prs.map vv) ((j : Int) + 1 - 1) = (vv v, 0) from by rw [show (j : Int) + 1 - 1 = (j : Int) by omega]; exact valAt_some hv)
    have d0 := (HB.out.cell (p := ⟨b, p + j * 3, none⟩) hb).trans c0
    have d1 := (HB.out.cell (p := ⟨b, p + j * 3 + 1, none⟩) hb).trans c1
    have d2 := (HB.out.cell (p := ⟨b, p + j * 3 + 2, none⟩) hb).trans c2
    have hm := hG.few.2
    obtain ⟨A1, hA1⟩ : ∃ A1, g.A2 = A1 := ⟨_, rfl⟩
    obtain ⟨m, hmm⟩ : ∃ m, g.n2 = m := ⟨_, rfl⟩
    rw [hA1] at hA ⊢
    rw [hmm] at hlt hm ⊢
    subst hA
    have t1 : decide ((j : Int) + 1 ≤ (m : Int)) = true := decide_eq_true (by omega)
    have e1 : (j : Int) + 1 - 1 = (j : Int) := by omega
    have hlt2 : j < m := by omega
    have hbw : ¬ b = w.heap.size := by omega
    have hbw2 : ¬ b = w.heap.size + 1 := by omega
    clear hG hv hA1 hmm
    go_enter Tryz.func42, Tryz.ntmps42
    go_wp2
    (try simp only [Exit.inBlock, Exit.then])
    refine bodyPost_ret (v := .tuple #[.agg #[.int .i64 v.k, .int .i64 v.n, .string v.s], .int .i64 0]) (by simp [results, Tryz.results42, go_sem]) rfl ?_
    exact ⟨by rw [HV.out]; rfl, al (al (Below.refl _ _) _) _⟩
  · have HV := Lib.hid (valAt_none (vs := g.prs) (i := o - 1) (by have := hG.n2; omega))
    have t1 : decide (o ≤ (g.n2 : Int)) = false := decide_eq_false (by omega)
    clear hG
    go_enter Tryz.func42, Tryz.ntmps42
    go_wp2
    (try simp only [Exit.inBlock, Exit.then])
    refine bodyPost_ret (v := .tuple #[.agg #[.int .i64 0, .int .i64 0, .string ⟨#[]⟩], .int .i64 37]) (by simp [results, Tryz.results42, go_sem]) rfl ?_
    exact ⟨by rw [HV.out]; rfl, al (al (Below.refl _ _) _) _⟩
end Go.Proofs.YtciclpbbegkpcaaGreatDoor.Eo
