/- What keys.getNumber answers: the number that bytes begin with, and the bytes behind it. -/
import Derived.Test.YtledpmpfckeejaaKeyPut1
import Derived.Laws.ResultCell
import Derived.RegionTactic
import Derived.BigRegion
import Derived.Laws.Bits64
namespace Go.Proofs.Ytledpmpfckeejaa.Key
open Go.RowKit Go.Proofs.Ytledpmpfckeejaa.Mem Go.Proofs.Ytledpmpfckeejaa.Right
set_option linter.unusedVariables false

theorem results_cell_tmp2 {fn : Func} {p u v : Tmp} {ty : TypeId} (h : fn.results = #[.cell p ty, .tmp u, .tmp v]) (tmps : Array Value) (P : Program) (w : World) :
    (results fn tmps).run P w =
      ((asAddr (tmps.getD p undef)).run P w).andThen fun a w₁ => ((loadVar ty a).run P w₁).andThen fun x w₂ => .ok (.tuple #[x, tmps.getD u undef, tmps.getD v undef]) w₂ := by
  simp only [results, h]
  simp [Sem.run_bind, Result.andThen]

theorem or_byte (X d : Nat) (hX : X < 72057594037927936) (hd : d < 256) : bits .or .u64 (IntKind.u64.wrap ((X : Int) * 256)) (IntKind.u64.wrap (d : Int)) = ((X * 256 + d : Nat) : Int) := by
  have e1 : IntKind.u64.wrap ((X : Int) * 256) = ((X * 256 : Nat) : Int) := by rw [IntKind.wrap_u64]; omega
  have e2 : IntKind.u64.wrap (d : Int) = (d : Int) := by rw [IntKind.wrap_u64]; omega
  have e3 : (BitVec.ofInt 64 ((X * 256 : Nat) : Int)).toNat = X * 256 := by rw [BitVec.ofInt_natCast, BitVec.toNat_ofNat]; exact Nat.mod_eq_of_lt (by omega)
  have e4 : (BitVec.ofInt 64 (d : Int)).toNat = d := by rw [BitVec.ofInt_natCast, BitVec.toNat_ofNat]; exact Nat.mod_eq_of_lt (by omega)
  have e5 : (X * 256) ||| d = X * 256 + d := by
    have := Nat.two_pow_add_eq_or_of_lt (i := 8) (b := d) (by omega) X
    rw [show (2 : Nat) ^ 8 = 256 by decide] at this
    rw [Nat.mul_comm, ← this]
  rw [e1, e2]
  show IntKind.u64.wrap ((BitVec.ofInt 64 ((X * 256 : Nat) : Int) ||| BitVec.ofInt 64 (d : Int)).toNat : Int) = _
  rw [BitVec.toNat_or, e3, e4, e5, IntKind.wrap_u64]
  omega
theorem dec_snoc {l : List UInt8} {k : Nat} {c : UInt8} (h : l[k]? = some c) : dec 0 (l.take (k + 1)) = dec 0 (l.take k) * 256 + c.toNat := by
  unfold dec
  rw [List.take_add_one, h, List.foldl_append]
  rfl
theorem dec_take_lt (l : List UInt8) {k : Nat} (hk : k < 8) : dec 0 (l.take k) < 72057594037927936 := by
  have h1 := dec_lt (l.take k)
  have h2 : 256 ^ (l.take k).length ≤ 256 ^ 7 := Nat.pow_le_pow_right (by decide) (by have := List.length_take_le k l; omega)
  have h3 : (256 : Nat) ^ 7 = 72057594037927936 := by decide
  omega
theorem dec_take8_lt (l : List UInt8) : dec 0 (l.take 8) ≤ 18446744073709551615 := by
  have h1 := dec_lt (l.take 8)
  have h2 : 256 ^ (l.take 8).length ≤ 256 ^ 8 := Nat.pow_le_pow_right (by decide) (by have := List.length_take_le 8 l; omega)
  have h3 : (256 : Nat) ^ 8 = 18446744073709551616 := by decide
  omega
theorem wrap_back {D : Nat} (h : D ≤ 18446744073709551615) : IntKind.i64.wrap (IntKind.u64.wrap ((D : Int) - 9223372036854775808)) = (D : Int) - 9223372036854775808 := by
  rw [IntKind.wrap_u64, IntKind.wrap_i64]; omega
/-- Bytes from a place on: where they lie. -/
theorem slice_from (b o n c k : Nat) (z : Int) (hz : z = k) (hk : k ≤ n) (hc : n ≤ c) : ∃ o', (k < c → o' = o + k) ∧ ∀ w : World, (Instr.sliceAt 25 (.slice (some ⟨b, o, none⟩) n c) (some (.int .i64 z)) none none).run Try.prog w = .ok (.slice (some ⟨b, o', none⟩) (n - k) (c - k)) w := by
  subst hz
  have hl := Try.underlying25
  have he : Try.prog.elem 25 = 5 := by simp [Program.elem, hl]
  refine ⟨if c = k then o else o + k, fun h => by rw [if_neg (by omega)], fun W => ?_⟩
  have hs : (sizeOf 5).run Try.prog W = .ok 1 W := by kernel_rfl
  rw [run_sliceAt_slice W _ _ _ _ _ (by rw [he]; exact hl), run_slice_l W 25 _ n c (by rw [he]; exact hl) .i64 k (by omega) (by omega), he, hs]
  simp only [Result.andThen, sliced, Int.toNat_natCast]
  by_cases h0 : c = k
  · rw [if_pos h0, if_pos (by omega)]
  · rw [if_neg h0, if_neg (by omega)]
    unfold Addr.add
    by_cases h1 : k = 0
    · subst h1; simp
    · simp [h1]
theorem row_from {w : World} {B b o o' n c k : Nat} {l : List UInt8} (h : Row w B (some ⟨b, o, none⟩) (bys l)) (hl : l.length ≤ n) (hc : n ≤ c) (ho : k < c → o' = o + k) : Row w B (some ⟨b, o', none⟩) (bys (l.drop k)) := by
  by_cases hk : k < c
  · rw [ho hk]
    have := Row.drop (k := k) h
    unfold bys at this ⊢
    rwa [List.map_drop]
  · rw [List.drop_eq_nil_of_le (by omega)]; exact Row.none_

/-- What is read of one value, and where the rest lies. -/
def GotPost (w : World) (B : Nat) (g : Got) (e : Ending) (w' : World) : Prop :=
  ∃ A c, e = .returned (.tuple #[.agg #[.int .i64 g.k, .int .i64 g.n, .string ⟨g.s.toArray⟩], .slice A g.r.length c, .int .i64 g.e]) ∧ Below w.heap.size w w' ∧ Row w B A (bys g.r) ∧ g.r.length ≤ c ∧ c ≤ 9223372036854775807
theorem GotPost.bad_ {w w' : World} {B : Nat} {e : Int} (h : Below w.heap.size w w') : GotPost w B (bad e) (.returned (.tuple #[.agg #[.int .i64 0, .int .i64 0, .string ⟨#[]⟩], .slice none 0 0, .int .i64 e])) w' :=
  ⟨none, 0, rfl, h, Row.none_, Nat.le_refl _, by decide⟩

theorem GotPost.good {w w' : World} {B : Nat} {g : Got} {k n : Int} {s r : List UInt8} (hg : g = ⟨k, n, s, r, 0⟩) {m c : Nat} {A : Option Addr} (hr : r.length = m) (hb : Below w.heap.size w w') (hrow : Row w B A (bys r)) (hmc : m ≤ c) (hc : c ≤ 9223372036854775807) :
    GotPost w B g (.returned (.tuple #[.agg #[.int .i64 k, .int .i64 n, .string ⟨s.toArray⟩], .slice A m c, .int .i64 0])) w' := by
  subst hg hr
  exact ⟨A, c, rfl, hb, hrow, hmc, hc⟩
theorem drop_len {l : List UInt8} {n k : Nat} (hn : n ≤ l.length) (hn' : l.length ≤ n) : (l.drop k).length = n - k := by rw [List.length_drop]; omega

set_option maxHeartbeats 1000000 in
theorem getN_any (A : Option Addr) (n c : Nat) (l : List UInt8) (w : World) (B : Nat) (hB : B ≤ w.heap.size) (hn : n ≤ l.length) (hn' : l.length ≤ n) (hc : n ≤ c) (hC : c ≤ 9223372036854775807) (h : Row w B A (bys l)) :
    Calls Try.prog 27 #[.slice A n c] w (GotPost w B (getN l)) := by
  have H := Lib.hid h
  clear h
  by_cases h8 : n < 8
  · have HV := Lib.hid (show getN l = bad 13 by unfold getN; rw [if_pos (by omega)])
    have h8' : (n : Int) < 8 := by omega
    go_enter Try.func27, Try.ntmps27
    go_wp2
    (try simp only [Exit.inBlock, Exit.then])
    refine bodyPost_ret (v := .tuple #[.agg #[.int .i64 0, .int .i64 0, .string ⟨#[]⟩], .slice none 0 0, .int .i64 13]) ?_ rfl ?_
    · rw [results_cell_tmp2 rfl]
      go_simp
    rw [HV.out]
    exact GotPost.bad_ (al (Below.refl _ _) _)
  · have h8' : ¬ (n : Int) < 8 := by omega
    obtain ⟨b, o, _, rfl, _⟩ := H.out.byte (k := 0) (by omega)
    go_enter Try.func27, Try.ntmps27
    go_wp2
    go_loop [5, 15] (fun x i => ∃ k : Nat, k ≤ 8 ∧ i = .int .i64 k ∧ x = .int .u64 (dec 0 (l.take k) : Int)) (fun _ i => 8 - (intOf i).toNat)
    case atStart => exact ⟨0, by decide, rfl, rfl⟩
    case round =>
      obtain ⟨k, hk, rfl, rfl⟩ := hrel
      by_cases hlt : k < 8
      · obtain ⟨b', o', d, he, hb, hd, hcell0⟩ := H.out.byte (k := k) (by omega)
        obtain ⟨rfl, rfl⟩ : b = b' ∧ o = o' := by simpa using he
        have hcell := ((al (Below.refl w.heap.size w) (.cells #[.int .i64 0, .int .i64 0, .string ⟨#[]⟩] 37)).cell (p := ⟨b, o + k, none⟩) (Nat.lt_of_lt_of_le hb hB)).trans hcell0
        have HD := Lib.hid hd
        have hlt' : (k : Int) < 8 := by omega
        clear hd he hcell0
        go_wp2
        go_round
        case rel =>
          refine ⟨k + 1, by omega, by go_num, ?_⟩
          rw [or_byte _ _ (dec_take_lt l hlt) d.toNat_lt, dec_snoc HD.out]
        case measure => simp [intOf]; omega
      · obtain rfl : k = 8 := by omega
        obtain ⟨o', ho', hsl⟩ := slice_from b o n c 8 8 rfl (by omega) hc
        have HO := Lib.hid ho'
        clear ho'
        obtain ⟨D, hD⟩ : ∃ D, dec 0 (l.take 8) = D := ⟨_, rfl⟩
        have hDl := dec_take8_lt l
        have hw := wrap_back hDl
        rw [hD] at hDl hw
        obtain ⟨N, hN⟩ : ∃ N, (D : Int) - 9223372036854775808 = N := ⟨_, rfl⟩
        have HN := Lib.hid (show getN l = ⟨1, N, [], l.drop 8, 0⟩ by unfold getN; rw [if_neg (by omega), hD, hN])
        rw [hD]
        have hw2 := hw.trans hN
        clear hDl hw hD hN
        go_wp2
        go_region
        go_wp2
        (try simp only [Exit.inBlock, Exit.then])
        refine bodyPost_ret (v := .tuple #[.agg #[.int .i64 1, .int .i64 N, .string ⟨#[]⟩], .slice (some ⟨b, o', none⟩) (n - 8) (c - 8), .int .i64 0]) ?_ rfl ?_
        · rw [results_cell_tmp2 rfl]
          go_simp
        exact GotPost.good HN.out (drop_len hn hn') (al (Below.refl _ _) _).drew (row_from H.out hn' hc HO.out) (by omega) (by omega)
end Go.Proofs.Ytledpmpfckeejaa.Key
