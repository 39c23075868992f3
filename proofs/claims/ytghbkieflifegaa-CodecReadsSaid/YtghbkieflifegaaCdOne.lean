/- codec's law: the message of awake. -/
import Derived.Test.YtghbkieflifegaaCdL1
namespace Go.Proofs.Ytghbkieflifegaa
open Go.RowKit Go.ChangeShapes cl
/-- the message of awake -/
def oneM : cd.Msg := ⟨1, 2, 3, 1, 300, [⟨⟨#[123, 97, 61, 34, 49, 34, 125]⟩, (2, 9), 4, [(1, 2, 3)]⟩], [(2, 9)], [(2, 9)], [], [], [], 3, ⟨#[97]⟩, ⟨#[120, 124, 121]⟩, [⟨#[112]⟩, ⟨#[113]⟩], 2⟩
theorem one_some : ∃ b, cd.msg oneM = some b := ⟨_, rfl⟩
theorem enc0 : (vm.enc 0).length = 1 := by rw [vm.enc_lt (by decide)]; rfl
theorem zero_some : ∃ b, cd.msg zeroM = some b ∧ b.length = 16 := by
  refine ⟨_, rfl, ?_⟩
  have z0 : ((0 : Nat) : Int).toNat = 0 := rfl
  have z1 : (⟨#[]⟩ : ByteArray).size = 0 := rfl
  simp only [zeroM, List.length_append, List.length_nil, Int.toNat_zero, enc0, kit.bytes_len, z0, z1]
theorem heap6 (w : World) (o0 o1 o2 o3 o4 o5 : Obj) (W : World) (hW : W = (((((w.alloc o0).alloc o1).alloc o2).alloc o3).alloc o4).alloc o5) :
    W.heap[w.heap.size]? = some o0 ∧ W.heap[w.heap.size + 1]? = some o1 ∧ W.heap[w.heap.size + 1 + 1]? = some o2 ∧ W.heap[w.heap.size + 1 + 1 + 1]? = some o3 ∧ W.heap[w.heap.size + 1 + 1 + 1 + 1]? = some o4 ∧ W.heap[w.heap.size + 1 + 1 + 1 + 1 + 1]? = some o5 ∧ Below w.heap.size w W := by
  subst hW
  have b1 : Below w.heap.size w (w.alloc o0) := below1
  have b2 := (below1 (w := w.alloc o0) (o := o1))
  have b3 := (below1 (w := (w.alloc o0).alloc o1) (o := o2))
  have b4 := (below1 (w := ((w.alloc o0).alloc o1).alloc o2) (o := o3))
  have b5 := (below1 (w := (((w.alloc o0).alloc o1).alloc o2).alloc o3) (o := o4))
  have b6 := (below1 (w := ((((w.alloc o0).alloc o1).alloc o2).alloc o3).alloc o4) (o := o5))
  have e0 := heap_alloc_new w o0
  have e1 := heap_alloc_new (w.alloc o0) o1
  have e2 := heap_alloc_new ((w.alloc o0).alloc o1) o2
  have e3 := heap_alloc_new (((w.alloc o0).alloc o1).alloc o2) o3
  have e4 := heap_alloc_new ((((w.alloc o0).alloc o1).alloc o2).alloc o3) o4
  have e5 := heap_alloc_new (((((w.alloc o0).alloc o1).alloc o2).alloc o3).alloc o4) o5
  simp only [World.size_alloc] at b2 b3 b4 b5 b6 e1 e2 e3 e4 e5
  refine ⟨?_, ?_, ?_, ?_, ?_, ?_, ?_⟩
  · exact (b6.block _ (by omega)).trans ((b5.block _ (by omega)).trans ((b4.block _ (by omega)).trans ((b3.block _ (by omega)).trans ((b2.block _ (by omega)).trans e0))))
  · exact (b6.block _ (by omega)).trans ((b5.block _ (by omega)).trans ((b4.block _ (by omega)).trans ((b3.block _ (by omega)).trans e1)))
  · exact (b6.block _ (by omega)).trans ((b5.block _ (by omega)).trans ((b4.block _ (by omega)).trans e2))
  · exact (b6.block _ (by omega)).trans ((b5.block _ (by omega)).trans e3)
  · exact (b6.block _ (by omega)).trans e4
  · exact e5
  · exact ((((b1.trans (b2.mono (by omega))).trans (b3.mono (by omega))).trans (b4.mono (by omega))).trans (b5.mono (by omega))).trans (b6.mono (by omega))
theorem rows_box {α : Type} {k n q : Nat} {R : Rel α} {W : World} {arr : Array Value} {T : TypeId} {fr : Nat × Nat} {l : List α} (h : W.heap[q]? = some (.cells arr T fr)) (cs : List (List Value)) (h0 : cs.length = l.length) (h1 : ∀ (j : Nat) (c : List Value) (x : α), cs[j]? = some c → l[j]? = some x → c.length = k ∧ R W W.heap.size c x) (ha : arr.toList = cs.flatten) (hn : n = l.length) (hm : n ≤ maxLen) :
    RowsAt k R W W.heap.size (.slice (some ⟨q, 0, none⟩) n n) l := by
  subst hn
  have hall := RowsAt.len h0 h1
  refine ⟨cs, h0, h1, by rw [flat_len cs hall, h0], some ⟨q, 0, none⟩, l.length, rfl, ⟨(fun e => by cases e), Nat.le_refl _⟩, hm, fun _ => ⟨q, 0, rfl, lt_of_block h, fun j u hj => ?_⟩⟩
  rw [← ha, Array.getElem?_toList] at hj
  rw [Nat.zero_add]
  exact boxc h j u hj
theorem one_list {α : Type} {P : List Value → α → Prop} {c : List Value} {x : α} (h : P c x) : ∀ (j : Nat) (c' : List Value) (x' : α), [c][j]? = some c' → [x][j]? = some x' → P c' x' := by
  intro j c' x' hc hx
  cases j with
  | zero => cases hc; cases hx; exact h
  | succ j => simp at hc
theorem two_list {α : Type} {P : List Value → α → Prop} {c d : List Value} {x y : α} (h : P c x) (h2 : P d y) : ∀ (j : Nat) (c' : List Value) (x' : α), [c, d][j]? = some c' → [x, y][j]? = some x' → P c' x' := by
  intro j c' x' hc hx
  match j, hc, hx with
  | 0, hc, hx => cases hc; cases hx; exact h
  | 1, hc, hx => cases hc; cases hx; exact h2
  | j + 2, hc, hx => simp at hc
set_option maxHeartbeats 1600000 in
set_option maxRecDepth 100000 in
theorem one_any (w : World) : Calls Try.prog 15 #[] w fun e w' => ∃ c, e = .returned (.agg (List.toArray c)) ∧ msgRel w' w'.heap.size c oneM ∧ Below w.heap.size w w' := by
  obtain ⟨W, hW⟩ : ∃ W, W = ((((((w.alloc (.cells #[.int .i64 1, .int .i64 2, .int .i64 3, .int .i64 1, .int .i64 300, .slice (some ⟨w.heap.size + 1 + 1, 0, none⟩) 1 1, .slice (some ⟨w.heap.size + 1 + 1 + 1, 0, none⟩) 1 1, .slice (some ⟨w.heap.size + 1 + 1 + 1 + 1, 0, none⟩) 1 1, .slice none 0 0, .slice none 0 0, .slice none 0 0, .int .i64 3, .string ⟨#[97]⟩, .string ⟨#[120, 124, 121]⟩, .slice (some ⟨w.heap.size + 1 + 1 + 1 + 1 + 1, 0, none⟩) 2 2, .int .i64 2] 33)).alloc (.cells #[.int .i64 1, .int .i64 2, .int .i64 3] 91)).alloc (.cells #[.string ⟨#[123, 97, 61, 34, 49, 34, 125]⟩, .int .i64 2, .int .i64 9, .int .i64 4, .slice (some ⟨w.heap.size + 1, 0, none⟩) 1 1] 50)).alloc (.cells #[.int .i64 2, .int .i64 9] 47)).alloc (.cells #[.int .i64 2, .int .i64 9] 47)).alloc (.cells #[.string ⟨#[112]⟩, .string ⟨#[113]⟩] 9)) := ⟨_, rfl⟩
  have hh := heap6 w _ _ _ _ _ _ W hW
  have HH := Lib.hid hh
  have HW := Lib.hid hW
  clear hh hW
  go_enter Try.func15, Try.ntmps15
  go_wp2
  refine bodyPost_ret (v := .agg #[.int .i64 1, .int .i64 2, .int .i64 3, .int .i64 1, .int .i64 300, .slice (some ⟨w.heap.size + 1 + 1, 0, none⟩) 1 1, .slice (some ⟨w.heap.size + 1 + 1 + 1, 0, none⟩) 1 1, .slice (some ⟨w.heap.size + 1 + 1 + 1 + 1, 0, none⟩) 1 1, .slice none 0 0, .slice none 0 0, .slice none 0 0, .int .i64 3, .string ⟨#[97]⟩, .string ⟨#[120, 124, 121]⟩, .slice (some ⟨w.heap.size + 1 + 1 + 1 + 1 + 1, 0, none⟩) 2 2, .int .i64 2]) (by simp [results, Try.results15, go_sem]) rfl ?_
  rw [← HW.out]
  obtain ⟨HX0, HX1, HX2, HX3, HX4, HX5, HB⟩ := HH.out
  have hm1 : 1 ≤ maxLen := by unfold maxLen; omega
  have hm2 : 2 ≤ maxLen := by unfold maxLen; omega
  have R1 := rows_box (k := 3) (R := lnkR) (l := [((1 : Int), (2 : Int), (3 : Int))]) HX1 [[.int .i64 1, .int .i64 2, .int .i64 3]] rfl (one_list ⟨rfl, rfl⟩) rfl rfl hm1
  have R2 := rows_box (k := 5) (R := entR) (l := [(⟨⟨#[123, 97, 61, 34, 49, 34, 125]⟩, (2, 9), 4, [(1, 2, 3)]⟩ : cd.Ent)]) HX2 [[.string ⟨#[123, 97, 61, 34, 49, 34, 125]⟩, .int .i64 2, .int .i64 9, .int .i64 4, .slice (some ⟨w.heap.size + 1, 0, none⟩) 1 1]] rfl (one_list ⟨rfl, _, _, _, rfl, by decide, R1⟩) rfl rfl hm1
  have R3 := rows_box (k := 2) (R := dotR) (l := [((2 : Int), (9 : Int))]) HX3 [[.int .i64 2, .int .i64 9]] rfl (one_list ⟨rfl, rfl⟩) rfl rfl hm1
  have R4 := rows_box (k := 2) (R := dotR) (l := [((2 : Int), (9 : Int))]) HX4 [[.int .i64 2, .int .i64 9]] rfl (one_list ⟨rfl, rfl⟩) rfl rfl hm1
  have R5 := rows_box (k := 1) (R := strR) (l := [(⟨#[112]⟩ : ByteArray), ⟨#[113]⟩]) HX5 [[.string ⟨#[112]⟩], [.string ⟨#[113]⟩]] rfl (two_list ⟨rfl, rfl, by decide⟩ ⟨rfl, rfl, by decide⟩) rfl rfl hm2
  exact ⟨_, rfl, ⟨_, _, _, _, _, _, _, _, _, _, _, _, _, _, _, _, _, _, _, _, _, rfl, R2, R3, R4, RowsAt.nil _ _, RowsAt.nil _ _, RowsAt.nil _ _, by decide, by decide, R5⟩, HB⟩
end Go.Proofs.Ytghbkieflifegaa
