import Derived.Test.YtlfiakpmnkhcdaaLZN
namespace Ob
set_option maxRecDepth 1000000 in
theorem lb1_1025 : lb1 64 1025 = true := by decide +kernel
set_option maxRecDepth 1000000 in
theorem lb1_1153 : lb1 64 1153 = true := by decide +kernel
set_option maxRecDepth 1000000 in
theorem lb1_1281 : lb1 96 1281 = true := by decide +kernel
set_option maxRecDepth 1000000 in
theorem lb1_1473 : lb1 128 1473 = true := by decide +kernel
set_option maxRecDepth 1000000 in
theorem lb1_1729 : lb1 160 1729 = true := by decide +kernel
end Ob
