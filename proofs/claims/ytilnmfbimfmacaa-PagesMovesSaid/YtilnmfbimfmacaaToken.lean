/- pages.Token. -/
import Derived.Test.YtilnmfbimfmacaaCut
import Derived.Test.YtilnmfbimfmacaaTokMath
import Derived.Deep.RegionHeld3
import Derived.Deep.AppendLies
namespace Go.Proofs.Ytilnmfbimfmacaa
open Go.RowKit Go.ChangeShapes Go.Joins cl

theorem infoByte : (Try.prog.info? 5).map (fun i => (i.zero, i.size, i.bytes)) = some (some (.int .u8 0), 1, 1) := by kernel_rfl
theorem wrap8 {x : Int} {p : Nat} (h : x = (p : Int)) (hp : p < 16) : IntKind.u8.wrap x = (p : Int) := by
  subst h
  simp only [IntKind.wrap, IntKind.bits, IntKind.signed]
  have : ((p : Int) % 256) = p := Int.emod_eq_of_lt (by omega) (by omega)
  simpa using this
theorem hexSize : ({ data := #[48, 49, 50, 51, 52, 53, 54, 55, 56, 57, 97, 98, 99, 100, 101, 102] } : ByteArray).size = 16 := rfl
theorem hexAt : ∀ (p : Nat) (h : p < ({ data := #[48, 49, 50, 51, 52, 53, 54, 55, 56, 57, 97, 98, 99, 100, 101, 102] } : ByteArray).size), (({ data := #[48, 49, 50, 51, 52, 53, 54, 55, 56, 57, 97, 98, 99, 100, 101, 102] } : ByteArray)[p]'h).toNat = tk.hexd p := by
  intro p h
  have h16 : p < 16 := h
  match p, h16 with
  | 0, _ => rfl | 1, _ => rfl | 2, _ => rfl | 3, _ => rfl | 4, _ => rfl | 5, _ => rfl | 6, _ => rfl | 7, _ => rfl
  | 8, _ => rfl | 9, _ => rfl | 10, _ => rfl | 11, _ => rfl | 12, _ => rfl | 13, _ => rfl | 14, _ => rfl | 15, _ => rfl
  | (n + 16), h => omega
theorem hexRun (p d : Nat) (h : p < 16) (hd : d = tk.hexd p) : ∀ W : World, (Instr.index 9 (.string ({ data := #[48, 49, 50, 51, 52, 53, 54, 55, 56, 57, 97, 98, 99, 100, 101, 102] } : ByteArray)) (.int .u8 (p : Int))).run Try.prog W = .ok (.int .u8 (d : Int)) W := by
  intro W
  rw [run_index_string W 9 ({ data := #[48, 49, 50, 51, 52, 53, 54, 55, 56, 57, 97, 98, 99, 100, 101, 102] } : ByteArray) .u8 (p : Int) Try.underlying9, dif_pos ⟨by omega, by rw [hexSize]; omega⟩, hd]
  have := hexAt p (by rw [hexSize]; exact h)
  simp only [Int.toNat_natCast, this]
def Txt (s : List Nat) (w : World) (e : Ending) (w' : World) : Prop := e = .returned (.string (kit.str s)) ∧ Below w.heap.size w w'

theorem two_at {w : World} (x y : Int) (t : TypeId) : ∀ ad, (some ⟨w.heap.size, 0, none⟩ : Option Addr) = some ad → ∀ (j : Nat) u, [Value.int .u8 x, Value.int .u8 y][j]? = some u → (w.alloc (.cells #[.int .u8 x, .int .u8 y] t)).cell? (ad.add j) = some u := by
  intro ad e j u hj
  obtain rfl := Option.some.inj e
  rw [Addr.add_lit, Nat.zero_add, World.cell?_alloc_at _ _ _ _ rfl]
  simpa using hj
theorem two_one (x y : Int) : ∀ u ∈ [Value.int .u8 x, Value.int .u8 y], u.oneCell' = true := by
  intro u hu
  simp only [List.mem_cons, List.not_mem_nil, or_false] at hu
  rcases hu with rfl | rfl <;> rfl
def tkl (a : ByteArray) (k : Nat) : List Nat := 112 :: tk.enc ((kit.bytes a).take k)
theorem tkl_step {a : ByteArray} {k : Nat} (hk : k < a.size) : tkl a (k + 1) = tkl a k ++ [tk.hexd (a[k].toNat / 16), tk.hexd (a[k].toNat % 16)] := by
  unfold tkl
  rw [List.take_add_one, kit.bytes_get a k hk]
  show 112 :: tk.enc (_ ++ [a[k].toNat]) = _
  rw [tk.enc_snoc]; rfl
theorem tkl_all {a : ByteArray} {k : Nat} (hk : k = a.size) : tkl a k = tk.token (kit.bytes a) true := by
  subst hk
  unfold tkl tk.token
  rw [List.take_of_length_le (by rw [kit.bytes_len]; omega), if_pos rfl]
theorem tkl_len (a : ByteArray) (k : Nat) : (tkl a k).length ≤ 1 + 2 * k := by
  unfold tkl
  rw [List.length_cons, tk.enc_len, List.length_take]; omega

set_option maxHeartbeats 1600000 in
set_option maxRecDepth 100000 in
theorem token_any (lv : Value) (a : ByteArray) (more : Bool) (w : World) (hs : a.size ≤ 3000) :
    Calls Try.prog 19 #[.agg #[lv, .string a, .bool more]] w (Txt (tk.token (kit.bytes a) more) w) := by
  cases more with
  | false =>
    go_enter Try.func19, Try.ntmps19
    go_wp2
    go_ret
    exact ⟨rfl, (Below.refl _ _).alloc (Nat.le_refl _) _⟩
  | true =>
    have hA : Below w.heap.size w (w.alloc (.cells #[lv, .string a, .bool true] 26)) := (Below.refl _ _).alloc (Nat.le_refl _) _
    have HL := Lib.hid (kit.bytes_len a)
    go_enter Try.func19, Try.ntmps19
    go_wp2
    have hown0 : ((w.alloc (.cells #[lv, .string a, .bool true] 26)).alloc (.cells #[.int .u8 112] 5)).ownsRow (w.alloc (.cells #[lv, .string a, .bool true] 26)).heap.size 5 1 (.slice (some ⟨(w.alloc (.cells #[lv, .string a, .bool true] 26)).heap.size, 0, none⟩) 1 1) (tkl a 0).length (kit.u8s (tkl a 0)) :=
      World.ownsRow_lit _ _ _ (Nat.le_refl _) (by simp [maxLen]) rfl
    have hR : Below (w.alloc (.cells #[lv, .string a, .bool true] 26)).heap.size (w.alloc (.cells #[lv, .string a, .bool true] 26)) ((w.alloc (.cells #[lv, .string a, .bool true] 26)).alloc (.cells #[.int .u8 112] 5)) := (Below.refl _ _).alloc (Nat.le_refl _) _
    obtain ⟨W1, hW1⟩ : ∃ W1, W1 = w.alloc (.cells #[lv, .string a, .bool true] 26) := ⟨_, rfl⟩
    have hz1 : W1.heap.size = w.heap.size + 1 := by rw [hW1]; simp
    go_loopw [3, 4, 12] (fun v _ i wr => ∃ k : Nat, i = .int .i64 k ∧ k ≤ a.size ∧ Hid (wr.ownsRow (w.heap.size + 1) 5 1 v (tkl a k).length (kit.u8s (tkl a k))) ∧ Below (w.heap.size + 1) (w.alloc (.cells #[lv, .string a, .bool true] 26)) wr) (fun _ _ i _ => a.size - (intOf i).toNat)
    case atStart => exact ⟨0, rfl, by omega, by show World.ownsRow _ _ _ _ _ _ _; simpa using hown0, by simpa using hR⟩
    case round =>
      obtain ⟨k, rfl, hk, HO, hbl⟩ := hrel
      have p1 : wr.cell? ⟨w.heap.size, 1, none⟩ = some (.string a) := (hbl.cell (p := ⟨w.heap.size, 1, none⟩) (Nat.lt_succ_self _)).trans (by rw [World.cell?_alloc_at _ _ _ _ rfl]; rfl)
      by_cases hlt : k < a.size
      · have hkI : (k : Int) < (a.size : Int) := by omega
        have h256 : a[k].toNat < 256 := a[k].toNat_lt
        have h16 : a[k].toNat / 16 < 16 := by omega
        have h17 : a[k].toNat % 16 < 16 := by omega
        obtain ⟨p, hp⟩ : ∃ p, p = a[k].toNat / 16 := ⟨_, rfl⟩
        obtain ⟨q, hq⟩ : ∃ q, q = a[k].toNat % 16 := ⟨_, rfl⟩
        rw [← hp] at h16
        rw [← hq] at h17
        have w1 : IntKind.u8.wrap ((a[k].toNat : Int) / 16) = (p : Int) := wrap8 (by omega) h16
        have w2 : ((a[k].toNat : Int)).tmod 16 = (q : Int) := by rw [hq]; rfl
        obtain ⟨dp, hdp⟩ : ∃ d, d = tk.hexd p := ⟨_, rfl⟩
        obtain ⟨dq, hdq⟩ : ∃ d, d = tk.hexd q := ⟨_, rfl⟩
        have R1 := hexRun p dp h16 hdp
        have R2 := hexRun q dq h17 hdq
        have HDP := Lib.hid hdp
        have HDQ := Lib.hid hdq
        clear hdp hdq
        have HP := Lib.hid hp
        have HQ := Lib.hid hq
        clear hp hq
        have hln := tkl_len a k
        have hzq := hbl.size
        simp only [World.size_alloc] at hzq
        have HST := Lib.hid (tkl_step hlt)
        have HLT := Lib.hid HO.out.lt
        obtain ⟨i0, hi0, hz0, hz1, hz2⟩ := info_parts infoByte
        have hn : (tkl a k).length + 2 ≤ maxLen := by unfold maxLen; omega
        have hb : ((tkl a k).length + 2) * 1 ≤ 140737488355328 := by omega
        have ag : u3.ownBlock ≠ some w.heap.size := fun e => by have := (HLT.out _ e).1; omega
        have HN := Lib.hid (two_at (w := wr) (dp : Int) (dq : Int) 5 ⟨wr.heap.size, 0, none⟩ rfl)
        go_wp2_with fail
        go_region_held3 (fun w' => w'.cell? ⟨w.heap.size, 1, none⟩ = some (.string a))
          (first
            | go_keep
            | (rw [hgrow.cell_far _ (by simp; omega) (Ne.symm ag)]; assumption))
          ((refine step_append_lies _ (by rfl) _ _ _ (by rfl) (w.heap.size + 1) 5 i0 _ 1 1 Try.underlying43 hi0 hz0 hz1 hz2 rfl (by omega) u3 _ _ (by rfl) ((HO.out.alloc _).drew)
              ⟨wr.heap.size, 0, none⟩ 2 2 [.int .u8 (dp : Int), .int .u8 (dq : Int)] (by rfl) (by rfl) HN.out (two_one _ _) (by omega) hn hb (by simp; omega) (wr.heap.size + 1) (by simp) ?_; intro gg cap w5 hown' hgrow hat hlt5))
        all_goals
          have HO5 : Hid (w5.ownsRow (w.heap.size + 1) 5 1 (.slice (some ⟨gg, 0, none⟩) ((tkl a k).length + 2) cap) (tkl a (k + 1)).length (kit.u8s (tkl a (k + 1)))) := by
            show World.ownsRow _ _ _ _ _ _ _
            rw [HST.out, List.length_append, kit.u8s_app, ← HP.out, ← HQ.out, ← HDP.out, ← HDQ.out]; exact hown'
          have hbl5 : Below (w.heap.size + 1) (w.alloc (.cells #[lv, .string a, .bool true] 26)) w5 := ((hbl.alloc hzq _).drew).grown hgrow (by simp; omega) (fun k hk => (HLT.out k hk).1)
          clear hown' hgrow R1 R2 hi0 hz0 hz1 hz2
          go_wp2
          go_roundw
          case rel => exact ⟨k + 1, by go_num, by omega, HO5.out, hbl5⟩
          case measure => simp [intOf]; omega
      · have HE : Hid (tkl a k = tk.token (kit.bytes a) true) := tkl_all (by omega)
        have hconv := kit.run_string (P := Try.prog) (src := 43) (dst := 9) Try.underlying43 Try.underlying5 Try.underlying9 HO.out
        have hfin : Below w.heap.size w wr := hA.trans (hbl.mono (Nat.le_succ _))
        go_wp2
        go_ret
        rw [← HE.out]; exact ⟨rfl, hfin⟩
end Go.Proofs.Ytilnmfbimfmacaa
