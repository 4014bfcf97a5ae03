/- What keys.put leaves: a right value's bytes behind those that are there. -/
import Derived.Test.YtledpmpfckeejaaKeyPutN
import Derived.Deep.RegionHeld3
import Derived.Deep.AppendLies
namespace Go.Proofs.Ytledpmpfckeejaa.Key
open Go.RowKit Go.Proofs.Ytledpmpfckeejaa.Mem Go.Proofs.Ytledpmpfckeejaa.Right
set_option linter.unusedVariables false

theorem far {w w' : World} {row : Option Nat} (hg : w.grownBy w' row) {b : Nat} (o : Nat) (hb : b < w.heap.size) (hne : row ≠ some b) {x : Value} (hx : w.cell? ⟨b, o, none⟩ = some x) : w'.cell? ⟨b, o, none⟩ = some x :=
  (World.cell?_of_block (w := w) (hg.block b hb (fun e => hne e.symm))).trans hx
theorem step_lit {B : Nat} {W w1 : World} {v : Value} {l : List UInt8} (h : Made B W v l w1) (cs : List UInt8) {m c g : Nat} {arr : Array Value} {t : TypeId} {fr : Nat × Nat} {ops : Array Oper} {o : Oper} {a : Act} {K : Act → World → Prop} {Q : Exit → Act → World → Prop} {E : Prop} (s y : Operand)
    (hgd : o.guard = none) (ho : o.op = .call { callee := .builtin .append, args := #[s, y], argTypes := #[25, 25] })
    (hs : a.eval s = v) (hy : a.eval y = .slice (some ⟨g, 0, none⟩) m c) (hrow : w1.heap[g]? = some (.cells arr t fr)) (harr : arr.toList = bys cs) (hm : cs.length = m) (hpos : 0 < m) (hl : l.length + m ≤ 2000000)
    (k : ∀ v' w', Made B W v' (l ++ cs) w' → w1.grownBy w' v.ownBlock → (v'.ownBlock = v.ownBlock ∨ v'.ownBlock = some w1.heap.size) → K (a.put o.dst v') w') :
    if Region.wanted o (yielded ops a.tmps) = true then Oper.wp Try.prog o a w1 K Q else E := by
  obtain ⟨i, hi, hz, hs1, hb⟩ := info_parts info_byte
  refine step_append_lies _ hgd s y 25 ho B 5 i (.int .u8 0) 1 1 Try.underlying25 hi hz hs1 hb rfl (by decide) v l.length (bys l) hs h.1 ⟨g, 0, none⟩ m c (bys cs) hy (by rw [bys_len, hm, Nat.mul_one]) (by rw [← harr]; exact World.news_of_block hrow) (bys_one _) hpos (by unfold maxLen; omega) (by omega) h.2.2 w1.heap.size rfl fun g' cap w' g1 g2 g3 _ => ?_
  refine k _ w' (h.grow (by rw [bys_app] at g1; exact g1) g2) g2 ?_
  rcases g3 with e | e
  · exact .inl e.symm
  · exact .inr (by rw [e]; rfl)

theorem Made.drew {B : Nat} {w w' : World} {v : Value} {l : List UInt8} (h : Made B w v l w') : Made B w v l w'.drew := ⟨h.1, h.2.1.drew, h.2.2⟩

/-- Block g holds a value. -/
def Box (w : World) (g : Nat) (k n : Int) (s : ByteArray) : Prop := w.heap[g]? = some (.cells #[.int .i64 k, .int .i64 n, .string s] 37 (0, 0))
theorem Box.made (w : World) (k n : Int) (s : ByteArray) : Box (w.alloc (.cells #[.int .i64 k, .int .i64 n, .string s] 37)) w.heap.size k n s := heap_alloc_new w _
theorem Box.lt {w : World} {g : Nat} {k n : Int} {s : ByteArray} (h : Box w g k n s) : g < w.heap.size := by
  rcases Nat.lt_or_ge g w.heap.size with h2 | h2
  · exact h2
  · unfold Box at h; rw [Array.getElem?_eq_none h2] at h; cases h
theorem Box.below {w w' : World} {g : Nat} {k n : Int} {s : ByteArray} (h : Box w g k n s) (hb : Below w.heap.size w w') : Box w' g k n s := (hb.block g h.lt).trans h
theorem Box.alloc {w : World} {g : Nat} {k n : Int} {s : ByteArray} (h : Box w g k n s) (o : Obj) : Box (w.alloc o) g k n s := h.below (al (Below.refl _ _) o)
theorem Box.grown {w w' : World} {g : Nat} {k n : Int} {s : ByteArray} {row : Option Nat} (h : Box w g k n s) (hg : w.grownBy w' row) (hne : row ≠ some g) : Box w' g k n s := (hg.block g h.lt (fun e => hne e.symm)).trans h
theorem Box.cells {w : World} {g : Nat} {k n : Int} {s : ByteArray} (h : Box w g k n s) :
    w.cell? ⟨g, 0, none⟩ = some (.int .i64 k) ∧ w.cell? ⟨g, 1, none⟩ = some (.int .i64 n) ∧ w.cell? ⟨g, 2, none⟩ = some (.string s) := by
  unfold Box at h
  refine ⟨?_, ?_, ?_⟩ <;> simp [World.cell?, h]

/-- Bytes that the call leaves. -/
def Left (B : Nat) (W : World) (l : List UInt8) (e : Ending) (w' : World) : Prop := ∃ v', e = .returned v' ∧ Made B W v' l w'

theorem own_ne {v v1 : Value} {x y : Nat} (e : v1.ownBlock = v.ownBlock ∨ v1.ownBlock = some x) (h : v.ownBlock ≠ some y) (hx : y < x) : v1.ownBlock ≠ some y := by
  rcases e with e | e
  · rw [e]; exact h
  · rw [e]; intro e2; injection e2 with e2; omega
theorem lit_at (w : World) (o o' : Obj) : ((w.alloc o).alloc o').heap[w.heap.size + 1]? = some o' := by
  have := heap_alloc_new (w.alloc o) o'
  rwa [show (w.alloc o).heap.size = w.heap.size + 1 by simp] at this

set_option maxHeartbeats 1000000 in
theorem put_int (B : Nat) (W : World) (v : Value) (l : List UInt8) (n : Int) (s : ByteArray) (w : World) (hn : -9223372036854775808 ≤ n) (hn' : n ≤ 9223372036854775807) (hl : l.length ≤ 100000) (h : Made B W v l w) :
    Calls Try.prog 18 #[v, .agg #[.int .i64 1, .int .i64 n, .string s]] w (Left B W (l ++ one 1 n s.data.toList)) := by
  have H := Lib.hid h
  have hne : v.ownBlock ≠ some w.heap.size := fun e => by have := (h.1.lt _ e).2; omega
  have HN := Lib.hid hne
  have HL := Lib.hid (show l.length + 1 ≤ 2000000 by omega)
  have HL2 := Lib.hid (show (l ++ [(2 : UInt8)]).length ≤ 1000000 by simp; omega)
  clear h hne
  go_enter Try.func18, Try.ntmps18
  go_wp2_with fail
  go_region_held3 (fun w' => w'.cell? ⟨w.heap.size, 1, none⟩ = some (.int .i64 n))
    (first | go_keep | exact far HG1.out 1 (by simp; omega) HN.out (by assumption) | exact far HG2.out 1 HZ2 HN2 (by assumption))
    (first | (refine step_lit ((H.out.alloc _).alloc _).drew [2] (.tmp 9) (.tmp 10) rfl rfl rfl rfl (lit_at w _ _) rfl rfl (by decide) HL.out ?_; intro v1 w1 m1 g1 e1; have HM1 := Lib.hid m1; have HG1 := Lib.hid g1; have HE1 := Lib.hid e1; clear m1 g1 e1) | (go_simp; go_at_call 25; refine (putN_any B W v1 (l ++ [2]) n w1 hn hn' HL2.out HM1.out).mono ?_; rintro e w2 ⟨v2, rfl, m2, g2⟩; have HM2 := Lib.hid m2; have HG2 := Lib.hid g2; clear m2 g2; have HZ2 : w.heap.size < w1.heap.size := (by have := HG1.out.size; simp at this; omega); have HN2 := own_ne HE1.out HN.out (by simp; omega)))
  go_wp2
  go_ret
  exact ⟨_, rfl, by rw [List.append_assoc] at HM2; exact HM2.out⟩

set_option maxHeartbeats 1000000 in
theorem put_bool (B : Nat) (W : World) (v : Value) (l : List UInt8) (n : Int) (s : ByteArray) (w : World) (hn : n = 0 ∨ n = 1) (hl : l.length ≤ 100000) (h : Made B W v l w) :
    Calls Try.prog 18 #[v, .agg #[.int .i64 2, .int .i64 n, .string s]] w (Left B W (l ++ one 2 n s.data.toList)) := by
  have H := Lib.hid h
  have HL := Lib.hid (show l.length + 2 ≤ 2000000 by omega)
  have hwn : IntKind.u8.wrap n = n := by rcases hn with h | h <;> rw [h] <;> rfl
  have HC := Lib.hid (show [Value.int .u8 3, Value.int .u8 n] = bys [3, UInt8.ofNat n.toNat] by rcases hn with h | h <;> rw [h] <;> rfl)
  clear h hn
  go_enter Try.func18, Try.ntmps18
  go_wp2_with (at_builtin; refine wp_lit (H.out.alloc _) [3, UInt8.ofNat n.toNat] (size1 _ _) (.tmp 17) (.tmp 21) rfl rfl rfl rfl HC.out rfl HL.out ?_; intro v' w' m1 _ _; have HM := Lib.hid m1; clear m1)
  go_ret
  exact ⟨_, rfl, HM.out⟩
set_option maxHeartbeats 1000000 in
theorem put_null (B : Nat) (W : World) (v : Value) (l : List UInt8) (n : Int) (s : ByteArray) (w : World) (hl : l.length ≤ 100000) (h : Made B W v l w) :
    Calls Try.prog 18 #[v, .agg #[.int .i64 0, .int .i64 n, .string s]] w (Left B W (l ++ one 0 n s.data.toList)) := by
  have H := Lib.hid h
  have HL := Lib.hid (show l.length + 1 ≤ 2000000 by omega)
  clear h
  go_enter Try.func18, Try.ntmps18
  go_wp2_with (at_builtin; refine wp_lit (H.out.alloc _) [1] (size1 _ _) (.tmp 35) (.tmp 36) rfl rfl rfl rfl rfl rfl HL.out ?_; intro v' w' m1 _ _; have HM := Lib.hid m1; clear m1)
  go_ret
  exact ⟨_, rfl, HM.out⟩
set_option maxHeartbeats 1000000 in
theorem put_text (B : Nat) (W : World) (v : Value) (l : List UInt8) (n : Int) (s : ByteArray) (w : World) (hs : s.size ≤ 1000) (hl : l.length ≤ 100000) (h : Made B W v l w) :
    Calls Try.prog 18 #[v, .agg #[.int .i64 3, .int .i64 n, .string s]] w (Left B W (l ++ one 3 n s.data.toList)) := by
  have H := Lib.hid h
  have HL := Lib.hid (show l.length + 1 ≤ 2000000 by omega)
  have HL2 := Lib.hid (show (l ++ [(4 : UInt8)]).length + s.size ≤ 2000000 by simp; omega)
  have HL3 := Lib.hid (show (l ++ [(4 : UInt8)] ++ s.data.toList).length + 1 ≤ 2000000 by
    have : s.data.toList.length = s.size := by rw [Array.length_toList]; rfl
    simp only [List.length_append, this, List.length_cons, List.length_nil]; omega)
  have hb := Box.made w 3 n s
  have HB := Lib.hid hb
  have HG := Lib.hid (show v.ownBlock ≠ some w.heap.size from fun e => by have := (h.1.lt _ e).2; omega)
  clear h hb
  go_enter Try.func18, Try.ntmps18
  go_wp2_with (first | (at_builtin; refine wp_lit (H.out.alloc _) [4] (size1 _ _) (.tmp 25) (.tmp 26) rfl rfl rfl rfl rfl rfl HL.out ?_; intro v1 w1 m1 g1 _; have HM := Lib.hid m1; obtain ⟨c0, c1, c2⟩ := (HB.out.grown g1 HG.out).cells; clear m1 g1) | (at_builtin; refine wp_text HM.out s (.tmp 28) (.tmp 30) rfl rfl rfl rfl HL2.out ?_; intro v2 w2 m2 _; have HM2 := Lib.hid m2; clear m2) | (at_builtin; refine wp_lit HM2.out [0] rfl (.tmp 32) (.tmp 33) rfl rfl rfl rfl rfl rfl HL3.out ?_; intro v3 w3 m3 _ _; have HM3 := Lib.hid m3; clear m3))
  go_ret
  exact ⟨_, rfl, by have := HM3.out; rw [List.append_assoc, List.append_assoc] at this; exact this⟩

/-- A right value's bytes. -/
theorem put_any (B : Nat) (W : World) (v : Value) (l : List UInt8) (u : Vl) (w : World) (hu : u.ok = true) (hf : Vl.fits u) (hl : l.length ≤ 100000) (h : Made B W v l w) :
    Calls Try.prog 18 #[v, .agg #[.int .i64 u.k, .int .i64 u.n, .string u.s]] w (Left B W (l ++ Vl.one u)) := by
  rcases ok_cases hu with ⟨hk, _, _⟩ | ⟨hk, _⟩ | ⟨hk, hn, _⟩ | ⟨hk, _, hs, _⟩
  · have := put_null B W v l u.n u.s w hl h
    unfold Vl.one; rw [hk]; exact this
  · have := put_int B W v l u.n u.s w hf.1 hf.2 hl h
    unfold Vl.one; rw [hk]; exact this
  · have := put_bool B W v l u.n u.s w hn hl h
    unfold Vl.one; rw [hk]; exact this
  · have hsz : u.s.size ≤ 1000 := by
      have : u.l.length = u.s.size := by unfold Vl.l; rw [Array.length_toList]; rfl
      omega
    have := put_text B W v l u.n u.s w hsz hl h
    unfold Vl.one; rw [hk]; exact this
end Go.Proofs.Ytledpmpfckeejaa.Key
